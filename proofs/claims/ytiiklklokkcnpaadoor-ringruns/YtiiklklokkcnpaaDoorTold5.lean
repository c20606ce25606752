/- 'told', walked: all that is told of an item's cycle. -/
import Derived.Test.YtiiklklokkcnpaaDoorRef9
import Derived.Test.YtiiklklokkcnpaaDoorWalk5
import Derived.Test.YtiiklklokkcnpaaDoorHand5
namespace Go.Proofs.YtiiklklokkcnpaaDoor
open Go.RowKit
set_option linter.unusedVariables false

/-- An error by its number; none by 0. -/
def erv (c : Nat) : Value := if c = 0 then .nilIface else .iface 62 (.int .i64 (c : Int))

theorem num_erv (c : Nat) (w : World) (hg : Handle w) : Calls Tryd.prog 9 #[erv c] w fun e w' => e = .returned (.int .i64 (c : Int)) ∧ Below w.heap.size w w' := by
  by_cases h : c = 0
  · subst h
    exact num_nil w
  · rw [show erv c = .iface 62 (.int .i64 (c : Int)) from by unfold erv; rw [if_neg h]]
    exact num_err (c : Int) w hg

section
variable {lo rb fb K : Nat} {w w0 : World} {v : Nat → Int} {seq : Nat → List Nat} {ls : List (List Nat)}

set_option maxRecDepth 100000 in
set_option maxHeartbeats 4000000 in
theorem told_ok (x : Value) (b : Nat) (hR : RG lo w rb fb K v seq w0) (hx : Rf w0 x ls) (t : Tie K ls seq) (hK : K ≤ 1000) (hb : b < K) :
    Calls Tryd.prog 18 #[.pointer (some ⟨rb, 0, none⟩), x, .int .i64 (b : Int)] w0 fun e w' => e = .returned (.bool true) ∧ RG lo w rb fb K v seq w' ∧ Keep w0 w' := by
  have p := hR.fs.part
  have hf := hid (hx.find t p hK b hb)
  have hwk := hid (rwalk_ok x b w0 hx t p hK hb)
  have hlen := t.len
  have hxr : Hid (∀ y, Keep w0 y → Rf y x ls) := hid (fun y hy => hx.keep hy)
  obtain ⟨bo, cap, hxe, _⟩ := hx.opened
  subst hxe
  obtain ⟨M, hM⟩ : ∃ M, ls.length = M := ⟨_, rfl⟩
  have hMh := hid hM
  rw [hM] at hf hwk hlen hxr ⊢
  obtain ⟨R, hRe⟩ : ∃ R, rot (seq (b + 1)) (b + 1) = R := ⟨_, rfl⟩
  have hfew := p.few (x := b + 1) (by omega) (by omega)
  obtain ⟨nl, hnl⟩ : ∃ nl, (seq (b + 1)).length = nl := ⟨_, rfl⟩
  have hRl : R.length = nl := by rw [← hRe, rot_len, hnl]
  have hRm := rot_mem (x := b + 1).2 (p.self (b + 1) (by omega))
  rw [hRe] at hRm hwk
  have hRn : R ≠ [] := fun e => by rw [e] at hRm; cases hRm
  have hRp := List.length_pos_of_mem hRm
  have hpos := List.length_pos_of_mem (p.self (b + 1) (by omega))
  rw [hRl] at hRp
  rw [hnl] at hfew
  have hReh := hid hRe
  have hRlh := hid hRl
  have hnlh := hid hnl
  have hRg := hid hR
  replace p := hid p
  clear hM hRe hRl hnl hRm
  go_enter Tryd.func18, Tryd.ntmps18
  go_wp2_with fail
  refine hf.out.mono ?_
  rintro e w1 ⟨i, k, rfl, hi, hk, rfl⟩
  have hil := (List.getElem?_eq_some_iff.1 hi).1
  replace hi := hid hi
  clear hf hk
  go_wp2_with fail
  refine hwk.out.mono ?_
  rintro e w2 ⟨v2, rfl, ho2, b2⟩
  have r2 : Rw w2 v2 R := ⟨_, ho2⟩
  obtain ⟨g2, c2, rfl, _, _, _⟩ := r2.sl hRn nl hRlh.out
  have h2 := hid (hRg.out.more b2)
  have k2 := hid (Keep.ofBelow b2)
  replace r2 := hid r2
  clear hwk ho2 b2
  go_wp2_with fail
  refine (h2.out.walk b hb).mono ?_
  rintro e w3 ⟨u3, rfl, r3, h3, k3⟩
  rw [hReh.out] at r3
  have r23 := hid (r2.out.keep k3)
  have kk3 := hid (k2.out.trans k3)
  replace h3 := hid h3
  replace r3 := hid r3
  clear h2 k2 r2 k3
  go_wp2_with fail
  refine (h3.out.next b hb).mono ?_
  rintro e w4 ⟨d1, hd1, rfl, h4, k4⟩
  rw [hReh.out, hnlh.out] at hd1
  have r24 := hid (r23.out.keep k4)
  have r34 := hid (r3.out.keep k4)
  have kk4 := hid (kk3.out.trans k4)
  replace h4 := hid h4
  replace hd1 := hid hd1
  clear h3 kk3 r23 r3 k4
  go_wp2_with fail
  refine (h4.out.prev b hb).mono ?_
  rintro e w5 ⟨d2, hd2, rfl, h5, k5⟩
  rw [hReh.out, hnlh.out] at hd2
  have r25 := hid (r24.out.keep k5)
  have r35 := hid (r34.out.keep k5)
  have kk5 := hid (kk4.out.trans k5)
  have hl5 := h5.len b hb
  rw [hnlh.out] at hl5
  replace hl5 := hid hl5
  replace hd2 := hid hd2
  clear h4 kk4 r24 r34 k5 h5
  go_wp2_with fail
  refine hl5.out.mono ?_
  rintro e w6 ⟨rfl, h6, k6⟩
  have r26 := hid (r25.out.keep k6)
  have r36 := hid (r35.out.keep k6)
  have kk6 := hid (kk5.out.trans k6)
  have hfr := hid (h6.front b hb hpos)
  clear hl5 kk5 r25 r35 k6 h6
  go_wp2_with fail
  refine hfr.out.mono ?_
  rintro e w7 ⟨d3, hd3, rfl, h7, k7⟩
  have kk7 := kk6.out.trans k7
  have m2 := hid ((r26.out.keep k7).ns (by rw [hRlh.out]; omega))
  have m3 := hid ((r36.out.keep k7).ns (by rw [hRlh.out]; omega))
  have r27 := hid (r26.out.keep k7)
  have hRf7 := hid (hxr.out w7 kk7)
  replace kk7 := hid kk7
  replace h7 := hid h7
  replace hd3 := hid hd3
  obtain ⟨m1, hm1⟩ : ∃ m1, 1 % nl = m1 := ⟨_, rfl⟩
  obtain ⟨mz, hmz⟩ : ∃ mz, nl - 1 = mz := ⟨_, rfl⟩
  have hm1l : m1 < nl := by rw [← hm1]; exact Nat.mod_lt _ (by omega)
  have em1 : Int.tmod 1 (nl : Int) = (m1 : Int) := by rw [← hm1]; exact tmod_nat 1 nl
  rw [hm1] at hd1
  rw [hmz] at hd2
  have emz : (nl : Int) - 1 = (mz : Int) := by omega
  have y1 : (0 : Int) ≤ (m1 : Int) := by omega
  have y2 : (m1 : Int) < (nl : Int) := by omega
  have y3 : (0 : Int) ≤ (mz : Int) := by omega
  have y4 : (mz : Int) < (nl : Int) := by omega
  have y5 : (0 : Int) ≤ (i : Int) := by omega
  have y6 : (i : Int) < (M : Int) := by have := hMh.out; omega
  have y7 : (0 : Int) < (nl : Int) := by omega
  have y8 : ¬ (nl = 0) := by omega
  have y9 : ¬ ((nl : Int) = 0) := by omega
  clear hm1 hmz hfr kk6 r26 r36 k7
  go_wp2_with fail
  refine (ints_ok _ _ _ _ m3.out m2.out).mono ?_
  rintro e w8 ⟨rfl, b8⟩
  have h8 := hid (h7.out.more b8)
  have kk8 := hid (kk7.out.trans (Keep.ofBelow b8))
  have r28 := r27.out.below b8
  obtain ⟨g', c', e1, _, _, hc8⟩ := r28.sl hRn nl hRlh.out
  injection e1 with e1 _ e1c
  injection e1 with e1
  injection e1 with e1
  subst e1
  have z1 := hc8 m1 (d1 + 1) hd1.out
  have z2 := hc8 mz (d2 + 1) hd2.out
  rw [show itm (d1 + 1) = .int .i64 (d1 : Int) from by unfold itm; congr 1; omega] at z1
  rw [show itm (d2 + 1) = .int .i64 (d2 : Int) from by unfold itm; congr 1; omega] at z2
  obtain ⟨bo', cap', e3, hop⟩ := hRf7.out.opened
  rw [hMh.out] at e3
  injection e3 with e3 _ e3c
  injection e3 with e3
  injection e3 with e3
  subst e3
  obtain ⟨g9, o9, c9, _, _, hcy⟩ := hop i _ hi.out
  obtain ⟨z3, _, hI9⟩ := hcy w8 b8
  have z4 := hI9.cell hd3.out
  rw [hnlh.out] at z3
  rw [Nat.add_zero, show itm (d3 + 1) = .int .i64 (d3 : Int) from by unfold itm; congr 1; omega] at z4
  clear h7 kk7 r28 r27 hc8 m2 m3 b8 hop hcy hI9 hRf7 e1c e3c
  go_wp2_with fail
  go_ret
  exact ⟨rfl, h8.out, kk8.out⟩
end

end Go.Proofs.YtiiklklokkcnpaaDoor
