/- 'told', walked: all that is told of an item's sequence. -/
import Derived.Test.YtpelpcplagfdiaaDoorRjoin4
import Derived.Test.YtpelpcplagfdiaaDoorVal4
import Derived.Test.YtpelpcplagfdiaaDoorAt4
import Derived.Test.YtpelpcplagfdiaaDoorSure4
namespace Go.Proofs.YtpelpcplagfdiaaDoor
open Go.RowKit
set_option linter.unusedVariables false

theorem Rf.openedK {w : World} {x : Value} {ls : List (List Nat)} (h : Rf w x ls) : ∃ b cap, x = .slice (some ⟨b, 0, none⟩) ls.length cap ∧ ∀ (i : Nat) (l : List Nat), ls[i]? = some l → ∃ g o c, l.length ≤ c ∧ c ≤ maxLen ∧ ∀ y, Keep w y → y.cell? ⟨b, i, none⟩ = some (.slice (some ⟨g, o, none⟩) l.length c) ∧ Ib y g o l := by
  obtain ⟨b, cap, cs, fr, rfl, h2, h3⟩ := h
  refine ⟨b, cap, rfl, fun i l hi => ?_⟩
  obtain ⟨u, hu, g, o, c, rfl, h4, h5, h6⟩ := h3 i l hi
  refine ⟨g, o, c, h4, h5, fun y hy => ⟨?_, h6.keep hy⟩⟩
  unfold World.cell?
  rw [hy b _ _ _ h2 (by decide) (by decide)]
  exact hu

theorem Ib.ir {w : World} {g o : Nat} {l : List Nat} (h : Ib w g o l) : Ir w g o l := fun j d hd => by
  rw [h.cell hd]
  unfold itm; congr 2; omega

theorem Ib.ns {w : World} {g o c : Nat} {l : List Nat} (h : Ib w g o l) (hl : l.length ≤ 4294967296) : Ns w (.slice (some ⟨g, o, none⟩) l.length c) (items l) := by
  refine ⟨_, c, by rw [items_length], fun e => (by cases e), by rw [items_length]; exact hl, fun a ha j z hz => ?_⟩
  cases ha
  unfold items at hz
  rw [List.getElem?_map] at hz
  obtain ⟨d, hd, rfl⟩ := Option.map_eq_some_iff.1 hz
  rw [show (⟨g, o, none⟩ : Addr).add j = ⟨g, o + j, none⟩ from by unfold Addr.add; split <;> simp_all]
  rw [h.cell hd]
  rfl

section
variable {lo fb K vb : Nat} {w w0 : World} {v : Nat → Int} {seq : Nat → List Nat} {ls : List (List Nat)}

set_option maxRecDepth 100000 in
set_option maxHeartbeats 8000000 in
theorem told_ok (x : Value) (b : Nat) (kz : Int) (hF : FS lo w fb K v seq w0) (hg : Handle w) (hlo : lo = w.heap.size) (hv : VB w0 vb K v) (hr : Rng v) (hx : Rf w0 x ls) (t : Tie K ls seq) (hK : K ≤ 1000) (hb : b < K) :
    Calls Tryd.prog 16 #[.pointer (some ⟨fb, 0, none⟩), x, .slice (some ⟨vb, 0, none⟩) K K, .int .i64 (b : Int), .int .i64 kz] w0 fun e w' => e = .returned (.bool true) ∧ FS lo w fb K v seq w' ∧ Keep w0 w' := by
  have p := hF.part
  have hf := hid (hx.find t p hK b hb)
  have hlen := t.len
  obtain ⟨bo, cap, rfl, hop⟩ := hx.openedK
  obtain ⟨M, hM⟩ : ∃ M, ls.length = M := ⟨_, rfl⟩
  rw [hM] at hf hlen ⊢
  have hMh := hid hM
  have hfew := p.few (x := b + 1) (by omega) (by omega)
  have hself := p.self (b + 1) (by omega)
  have hnd := hid (p.nd (b + 1) (by omega))
  have hin0 := fun z hz => And.intro (p.mem (b + 1) z (by omega) hz).2 (p.le (b + 1) z (by omega) (by omega) hz)
  obtain ⟨L, hL⟩ : ∃ L, seq (b + 1) = L := ⟨_, rfl⟩
  obtain ⟨nl, hnl⟩ : ∃ nl, L.length = nl := ⟨_, rfl⟩
  rw [hL] at hfew hself hin0 hnd
  rw [hnl] at hfew
  have hin := hid hin0
  have hne : L ≠ [] := fun e => by rw [e] at hself; cases hself
  have hneh := hid hne
  have hr64 := hid (hr.in64 L)
  have hAt : ∃ (y : Int) (ev : Value), Hid (∀ y0, FS lo w fb K v seq y0 → Calls Tryd.prog 34 #[.pointer (some ⟨fb, 0, none⟩), .int .i64 (b : Int), .int .i64 kz] y0 fun e w' => e = .returned (.tuple #[.int .i64 y, ev]) ∧ FS lo w fb K v seq w' ∧ Keep y0 w') ∧ ((∃ kn d : Nat, kz = (kn : Int) ∧ kn < nl ∧ L[kn]? = some (d + 1) ∧ y = (d : Int) ∧ ev = .nilIface) ∨ (¬ (0 ≤ kz ∧ kz < (nl : Int)) ∧ y = 0 ∧ ev = .iface 50 (.int .i64 1))) := by
    by_cases hk : 0 ≤ kz ∧ kz < (nl : Int)
    · obtain ⟨kn, rfl⟩ : ∃ kn : Nat, kz = (kn : Int) := ⟨kz.toNat, by omega⟩
      obtain ⟨z, hz⟩ : ∃ z, L[kn]? = some z := ⟨_, List.getElem?_eq_getElem (by omega)⟩
      have hz0 := (hin0 z (List.mem_of_getElem? hz)).1
      obtain ⟨d, rfl⟩ : ∃ d, z = d + 1 := ⟨z - 1, by omega⟩
      refine ⟨(d : Int), .nilIface, hid (fun y0 hy => ?_), Or.inl ⟨kn, d, rfl, by omega, hz, rfl, rfl⟩⟩
      refine (hy.at b kn hb (by rw [hL, hnl]; omega)).mono ?_
      rintro e w' ⟨d', hd', rfl, h1, h2⟩
      rw [hL, hz] at hd'
      obtain rfl : d = d' := by injection hd' with hd'; omega
      exact ⟨rfl, h1, h2⟩
    · exact ⟨0, _, hid (fun y0 hy => hy.at_out b kz hb (by rw [hL, hnl]; exact hk)), Or.inr ⟨hk, rfl, rfl⟩⟩
  obtain ⟨yv, ev, hAt, hway⟩ := hAt
  replace hway := hid hway
  obtain ⟨sm, hsm⟩ : ∃ sm, wrap64 (sumV v L) = sm := ⟨_, rfl⟩
  have hsmh := hid hsm
  have hnlh := hid hnl
  have hLh := hid hL
  have h1 := hid hF
  have v1 := hid hv
  have hgh := hid hg
  clear hM hF hv hself hL hnl hsm hg hr hne hin0
  go_enter Tryd.func16, Tryd.ntmps16
  go_wp2_with fail
  refine hf.out.mono ?_
  rintro e w1 ⟨i, k, rfl, hi, hk, rfl⟩
  have hil := (List.getElem?_eq_some_iff.1 hi).1
  obtain ⟨g, o, c, hc1, hc2, hcy⟩ := hop i _ hi
  rw [hLh.out] at hcy hc1 hk
  rw [hnlh.out] at hcy hc1
  have cell := (hcy w0 (Keep.refl _)).1
  have hIb := hid (fun y hy => (hcy y hy).2)
  have hkh := hid hk
  have q1 : (0 : Int) ≤ (i : Int) := by omega
  have q2 : (i : Int) < (M : Int) := by have := hMh.out; omega
  clear hf hop hcy hi hk hil
  go_wp2_with fail
  refine (h1.out.rank b hb).mono ?_
  rintro e w2 ⟨A, B, hAB, rfl, h2, k2⟩
  have hkA : k = A.length := (List.getElem?_inj (List.getElem?_eq_some_iff.1 hkh.out).1 hnd.out).1 (by rw [hkh.out, ← hLh.out, hAB, List.getElem?_append_right (Nat.le_refl _)]; simp)
  rw [← hkA]
  replace h2 := hid h2
  replace k2 := hid k2
  clear hAB hkA h1 cell
  go_wp2_with fail
  refine (h2.out.size b hb).mono ?_
  rintro e w3 ⟨rfl, h3, k3⟩
  rw [hLh.out, hnlh.out]
  replace h3 := hid h3
  replace k3 := hid (k2.out.trans k3)
  clear h2 k2
  go_wp2_with fail
  refine (h3.out.sum b hb).mono ?_
  rintro e w4 ⟨rfl, h4, k4⟩
  rw [hLh.out, hsmh.out]
  replace h4 := hid h4
  replace k4 := hid (k3.out.trans k4)
  clear h3 k3
  go_wp2_with fail
  refine (h4.out.least b hb (by rw [hLh.out]; exact hr64.out)).mono ?_
  rintro e w5 ⟨d1, hd1, rfl, h5, k5⟩
  rw [hLh.out] at hd1
  replace h5 := hid h5
  replace k5 := hid (k4.out.trans k5)
  replace hd1 := hid hd1
  clear h4 k4
  go_wp2_with fail
  refine (h5.out.most b hb (by rw [hLh.out]; exact hr64.out)).mono ?_
  rintro e w6 ⟨d2, hd2, rfl, h6, k6⟩
  rw [hLh.out] at hd2
  replace h6 := hid h6
  replace k6 := hid (k5.out.trans k6)
  replace hd2 := hid hd2
  clear h5 k5
  go_wp2_with fail
  refine (hAt.out _ h6.out).mono ?_
  rintro e w7 ⟨rfl, h7, k7⟩
  replace h7 := hid h7
  replace k7 := hid (k6.out.trans k7)
  clear h6 k6 hAt
  go_wp2_with fail
  refine (h7.out.list b hb).mono ?_
  rintro e w8 ⟨u8, rfl, r8, h8, k8⟩
  rw [hLh.out] at r8
  replace h8 := hid h8
  replace r8 := hid r8
  replace k8 := hid (k7.out.trans k8)
  have v8 := hid (v1.out.keep k8.out)
  clear h7 k7 v1
  have hs1 := rsum_ok g o c vb K L v w8 (hIb.out w8 k8.out).ir v8.out.vr (by omega) hin.out (by rw [hnlh.out]; omega)
  rw [hnlh.out, hsmh.out] at hs1
  replace hs1 := hid hs1
  go_wp2_with fail
  refine hs1.out.mono ?_
  rintro e w9 ⟨rfl, rfl⟩
  have hs2 := rleast_ok g o c vb K L v w8 (hIb.out w8 k8.out).ir v8.out.vr (by omega) hin.out (by rw [hnlh.out]; omega) hneh.out
  rw [hnlh.out] at hs2
  replace hs2 := hid hs2
  clear hs1
  go_wp2_with fail
  refine hs2.out.mono ?_
  rintro e w9 ⟨e1, rfl, hf1, b9⟩
  obtain rfl : d1 = e1 := least_one hr64.out hd1.out hf1
  have h9 := hid (h8.out.more b9)
  have v9 := hid (v8.out.more b9)
  have r9 := hid (r8.out.keep (Keep.ofBelow b9))
  have k9 := hid (k8.out.trans (Keep.ofBelow b9))
  have hs3 := rmost_ok g o c vb K L v w9 (hIb.out w9 k9.out).ir v9.out.vr (by omega) hin.out (by rw [hnlh.out]; omega) hneh.out
  rw [hnlh.out] at hs3
  replace hs3 := hid hs3
  clear hs2 h8 v8 b9 hf1 r8 k8
  go_wp2_with fail
  refine hs3.out.mono ?_
  rintro e w10 ⟨e2, rfl, hf2, b10⟩
  obtain rfl : d2 = e2 := most_one hr64.out hd2.out hf2
  have h10 := hid (h9.out.more b10)
  have r10 := hid (r9.out.keep (Keep.ofBelow b10))
  have k10 := hid (k9.out.trans (Keep.ofBelow b10))
  clear hs3 h9 v9 b10 hf2 r9 k9
  have hns := (hIb.out w10 k10.out).ns (c := c) (by rw [hnlh.out]; omega)
  rw [hnlh.out] at hns
  have hio := hid (ints_ok _ _ _ w10 (r10.out.ns (by rw [hnlh.out]; omega)) hns)
  clear hns
  go_wp2_with fail
  refine hio.out.mono ?_
  rintro e w11 ⟨rfl, b11⟩
  have h11 := hid (h10.out.more b11)
  have k11 := hid (k10.out.trans (Keep.ofBelow b11))
  clear hio h10 k10 b11 r10
  rcases hway.out with ⟨kn, d, rfl, hkn, hd, rfl, rfl⟩ | ⟨hk, rfl, rfl⟩
  · have cc := (hIb.out w11 k11.out).cell hd
    rw [show itm (d + 1) = .int .i64 (d : Int) from by unfold itm; congr 1; omega] at cc
    have s1 : decide ((kn : Int) < 0) = false := decide_eq_false (by omega)
    have s2 : decide ((nl : Int) ≤ (kn : Int)) = false := decide_eq_false (by omega)
    have s3 : decide (nl ≤ kn) = false := decide_eq_false (by omega)
    have s4 : (0 : Int) ≤ (kn : Int) := by omega
    have s5 : (kn : Int) < (nl : Int) := by omega
    clear hd hway
    go_wp2_with fail
    go_ret
    exact ⟨rfl, h11.out, k11.out⟩
  · have ways : kz < 0 ∨ (¬ kz < 0 ∧ (nl : Int) ≤ kz) := by omega
    have hnm := hid (num_err 1 w11 (h11.out.handle hgh.out hlo))
    clear hk hway
    rcases ways with y1 | ⟨y1, y2⟩
    · have s1 : decide (kz < 0) = true := decide_eq_true y1
      go_wp2_with fail
      refine hnm.out.mono ?_
      rintro e w12 ⟨rfl, b12⟩
      have h12 := hid (h11.out.more b12)
      have k12 := hid (k11.out.trans (Keep.ofBelow b12))
      go_wp2_with fail
      go_ret
      exact ⟨rfl, h12.out, k12.out⟩
    · have s1 : decide (kz < 0) = false := decide_eq_false y1
      have s2 : decide ((nl : Int) ≤ kz) = true := decide_eq_true y2
      go_wp2_with fail
      refine hnm.out.mono ?_
      rintro e w12 ⟨rfl, b12⟩
      have h12 := hid (h11.out.more b12)
      have k12 := hid (k11.out.trans (Keep.ofBelow b12))
      go_wp2_with fail
      go_ret
      exact ⟨rfl, h12.out, k12.out⟩
end

end Go.Proofs.YtpelpcplagfdiaaDoor
