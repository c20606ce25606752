/- 'told' of the laws, walked. -/
import Derived.Test.YtdmkbcbgjdmgdaaGreatDoorTold14
namespace Go.Proofs.YtdmkbcbgjdmgdaaGreatDoor
open Go.RowKit
set_option linter.unusedVariables false

theorem Rw.keepD {w w' : World} {v : Value} {l : List Nat} (h : Rw w v l) (k : KeepD w w') : Rw w' v l := by
  obtain ⟨base, ho⟩ := h
  refine ⟨base, ho.1, ?_⟩
  rcases ho.2 with hn | ⟨g, cap, cur, rfl, hb, hgg, rest⟩
  · exact .inl hn
  · exact .inr ⟨g, cap, cur, rfl, hb, k g _ _ _ hgg (.inl rfl), rest⟩

theorem KeepD.trans {a b c : World} (h : KeepD a b) (k : KeepD b c) : KeepD a c := fun i cs t fr hi ht => k i cs t fr (h i cs t fr hi ht) ht
theorem KeepD.refl (a : World) : KeepD a a := fun _ _ _ _ h _ => h

/-- A list's length, read off the rows. -/
theorem Rf.row {w : World} {b cap : Nat} {ls : List (List Nat)} (h : Rf w (.slice (some ⟨b, 0, none⟩) ls.length cap) ls) {i : Nat} {l : List Nat} (hi : ls[i]? = some l) : ∃ g o c, w.cell? ⟨b, i, none⟩ = some (.slice (some ⟨g, o, none⟩) l.length c) := by
  obtain ⟨b', cap', cs, fr, h1, h2, h3⟩ := h
  injection h1 with h1 _ _
  injection h1 with h1
  injection h1 with h1
  subst h1
  obtain ⟨u, h4, g, o, c, rfl, _⟩ := h3 i l hi
  refine ⟨g, o, c, ?_⟩
  unfold World.cell?
  rw [h2]
  simpa using h4

section
variable {wb n m : Nat} {w w0 w' : World} {sq : Nat → List Nat} {tt : Nat → Option (Nat × Nat)} {ky : Nat → Int} {xv : Value}

set_option maxRecDepth 100000 in
set_option maxHeartbeats 8000000 in
theorem told_ok (h : WQ w.heap.size w wb n m sq tt ky w0) (d : Dc n m sq tt ky w0 xv) (hg : Handle w) (hn : n ≤ 1000) (hm : m ≤ 1000) (a b : Int) :
    Calls Tryz.prog 11 #[.pointer (some ⟨wb, 0, none⟩), xv, .int .i64 a, .int .i64 b] w0 fun e w' => e = .returned (.bool true) ∧ WQ w.heap.size w wb n m sq tt ky w' ∧ KeepW w0 w' := by
  have p := h.part
  obtain ⟨fv, tv, ls, ts, rfl, hR, t, hT, hts⟩ := d
  obtain ⟨fb, fcap, _, _, rfl, _⟩ := id hR
  obtain ⟨tad, tcap, rfl⟩ := hT.form
  obtain ⟨z, er, B, s1, s2, s3, hcase⟩ := weak_step h ⟨fb, fcap, rfl, hR⟩ t hT hts hn hm a b
  have hF := t.len
  obtain ⟨F, hFl⟩ : ∃ F, ls.length = F := ⟨_, rfl⟩
  obtain ⟨T, hTl⟩ : ∃ T, ts.length = T := ⟨_, rfl⟩
  rw [hFl, hTl] at s1 ⊢
  obtain ⟨w1, hw1⟩ : ∃ w1, w0.alloc (.cells #[.int .i64 (n : Int), .int .i64 (m : Int), .slice (some ⟨fb, 0, none⟩) F fcap, .slice tad T tcap] 32) = w1 := ⟨_, rfl⟩
  have b1 : Below w0.heap.size w0 w1 := by rw [← hw1]; exact (Below.refl _ _).alloc (Nat.le_refl _) _
  have kx : w1.heap[w0.heap.size]? = some (.cells #[.int .i64 (n : Int), .int .i64 (m : Int), .slice (some ⟨fb, 0, none⟩) F fcap, .slice tad T tcap] 32 (0, 0)) := by rw [← hw1]; exact heap_alloc_new w0 _
  have h1 := h.more b1
  have K1 := hid (KeepW.ofBelow b1)
  obtain ⟨X, hX⟩ : ∃ X, w0.heap.size = X := ⟨_, rfl⟩
  rw [hX] at kx
  replace hX := hid hX
  replace hw1 := hid hw1
  have s1 := hid s1
  have s2 := hid s2
  have hlk := hid (s3 w1 h1)
  have hR := hid hR
  have t := hid t
  have p := hid p
  have hFl := hid hFl
  replace kx := hid kx
  have hg := hid hg
  have hn' := hid hn
  clear h h1 b1 s3 hT hts hTl
  rcases hcase with ⟨rfl, hni⟩ | ⟨hi, hcase⟩
  · have hlk : Hid (Calls Tryz.prog 16 #[.pointer (some ⟨wb, 0, none⟩), .int .i64 a, .int .i64 b] w1 fun e w' => e = .returned (.tuple #[.bool B, .iface 63 (.int .i64 12)]) ∧ WQ w.heap.size w wb n m sq tt ky w' ∧ KeepW w1 w') := hlk
    clear hni
    go_enter Tryz.func11, Tryz.ntmps11
    go_upto_region 1 with fail
    rw [hw1.out, hX.out]
    go_wp2_with fail
    refine hlk.out.mono ?_
    rintro e w2 ⟨rfl, h2, k2⟩
    have K2 := hid (K1.out.trans k2)
    have kx2 := hid (k2.web kx.out)
    have hwk := hid (s2.out w2 h2)
    clear hlk h2 k2 K1 kx s2
    go_wp2_with fail
    refine hwk.out.mono ?_
    rintro e w3 ⟨rfl, h3, k3⟩
    have K3 := hid (K2.out.trans k3)
    have kx3 := k3.web kx2.out
    obtain ⟨c0, c1, c2, c3⟩ := blk4 kx3
    have hdw := hid (s1.out w3 (.inr (.ofW K3.out)))
    replace h3 := hid h3
    clear hwk k3 K2 kx2 kx3 s1
    go_wp2_with fail
    refine hdw.out.mono ?_
    rintro e w4 ⟨rfl, b4⟩
    have h4 := h3.out.more b4
    have K4 := hid (K3.out.trans (.ofBelow b4))
    have hnm := hid (num_any 12 w4 (hg.out.below h4.below))
    replace h4 := hid h4
    clear hdw b4 K3 h3 c0 c1 c2 c3
    go_wp2_with fail
    refine hnm.out.mono ?_
    rintro e w5 ⟨rfl, b5⟩
    have h5 := h4.out.more b5
    have K5 := hid (K4.out.trans (.ofBelow b5))
    have hnm5 := hid (num_err 12 w5 (hg.out.below h5.below))
    replace h5 := hid h5
    clear hnm b5 K4 h4
    go_wp2_with fail
    refine hnm5.out.mono ?_
    rintro e w6 ⟨rfl, b6⟩
    have fin := hid (And.intro (h5.out.more b6) (K5.out.trans (.ofBelow b6)))
    clear hnm5 b6 h5 K5
    go_wp2_with fail
    go_ret
    exact ⟨rfl, fin.out⟩
  · obtain ⟨A, rfl, hA⟩ := nat_of ⟨hi.1, hi.2.1⟩
    obtain ⟨C, rfl, hC⟩ := nat_of ⟨hi.2.2.1, hi.2.2.2⟩
    have hiA := fiD_at t.out hA
    have hiC := fiD_at t.out hC
    have hlt := fiD_lt t.out hA
    rw [hFl.out] at hlt
    obtain ⟨I, hI⟩ : ∃ I, fiD ls sq A = I := ⟨_, rfl⟩
    obtain ⟨J, hJ⟩ : ∃ J, fiD ls sq C = J := ⟨_, rfl⟩
    have hlb := fiD_lb t.out p.out A C hA hC
    rw [hI, hJ] at hlb
    rw [hI] at hiA hlt
    rw [hJ] at hiC
    replace hI := hid hI
    replace hJ := hid hJ
    have hlk : Hid (Calls Tryz.prog 16 #[.pointer (some ⟨wb, 0, none⟩), .int .i64 (A : Int), .int .i64 (C : Int)] w1 fun e w' => e = .returned (.tuple #[.bool B, .nilIface]) ∧ WQ w.heap.size w wb n m sq tt ky w' ∧ KeepW w1 w') := by
      have e12 : (if er = 12 then (12 : Int) else 0) = 0 := if_neg (by rcases hcase with ⟨q, _⟩ | ⟨q, _⟩ <;> omega)
      rw [e12, erV_0] at hlk
      exact hlk
    have hBe : (B == (er == 0)) = true := by rcases hcase with ⟨rfl, rfl⟩ | ⟨rfl, rfl⟩ <;> rfl
    have her : (er == 12) = false := by rw [beq_eq_false_iff_ne]; rcases hcase with ⟨q, _⟩ | ⟨q, _⟩ <;> omega
    have hee : (er != er) = false := by simp
    have hzz : (z != z) = false := by simp
    obtain ⟨S, hS⟩ : ∃ S : Bool, S = true ↔ C + 1 ∈ sq (A + 1) := by
      by_cases q : C + 1 ∈ sq (A + 1)
      · exact ⟨true, fun _ => q, fun _ => rfl⟩
      · exact ⟨false, fun k => (by cases k), fun k => absurd k q⟩
    have hSe : (S == ((I : Int) == (J : Int))) = true := by
      by_cases q : C + 1 ∈ sq (A + 1)
      · rw [hS.2 q, hlb.2 q]; simp
      · have q1 : S = false := by
          cases S with
          | false => rfl
          | true => exact absurd (hS.1 rfl) q
        have q2 : ((I : Int) == (J : Int)) = false := by rw [beq_eq_false_iff_ne]; intro k; exact q (hlb.1 (by omega))
        rw [q1, q2]; rfl
    obtain ⟨Ln, hLn⟩ : ∃ Ln, (sq (A + 1)).length = Ln := ⟨_, rfl⟩
    have hLL : ((Ln : Int) == (Ln : Int)) = true := by simp
    replace hLn := hid hLn
    have hS := hid hS
    have hiA := hid hiA
    have hiC := hid hiC
    clear hi hcase hlb
    go_enter Tryz.func11, Tryz.ntmps11
    go_upto_region 1 with fail
    rw [hw1.out, hX.out]
    go_wp2_with fail
    refine hlk.out.mono ?_
    rintro e w2 ⟨rfl, h2, k2⟩
    have K2 := hid (K1.out.trans k2)
    have kx2 := hid (k2.web kx.out)
    have hwk := hid (s2.out w2 h2)
    clear hlk h2 k2 K1 kx s2
    go_wp2_with fail
    refine hwk.out.mono ?_
    rintro e w3 ⟨rfl, h3, k3⟩
    have K3 := hid (K2.out.trans k3)
    have kx3 := k3.web kx2.out
    obtain ⟨c0, c1, c2, c3⟩ := blk4 kx3
    replace kx3 := hid kx3
    have hdw := hid (s1.out w3 (.inr (.ofW K3.out)))
    replace h3 := hid h3
    clear hwk k3 K2 kx2 s1
    go_wp2_with fail
    refine hdw.out.mono ?_
    rintro e w4 ⟨rfl, b4⟩
    have h4 := h3.out.more b4
    have K4 := hid (K3.out.trans (.ofBelow b4))
    have kx4 := hid (Below.web b4 kx3.out)
    have hnm := hid (num_any er w4 (hg.out.below h4.below))
    replace h4 := hid h4
    clear hdw b4 K3 h3 c0 c1 c2 c3 kx3
    go_wp2_with fail
    refine hnm.out.mono ?_
    rintro e w5 ⟨rfl, b5⟩
    have h5 := h4.out.more b5
    have K5 := hid (K4.out.trans (.ofBelow b5))
    have kx5 := hid (Below.web b5 kx4.out)
    have hwl := hid (h5.walk A hA)
    clear hnm b5 K4 h4 kx4 h5
    go_wp2_with fail
    refine hwl.out.mono ?_
    rintro e w6 ⟨u, rfl, hu, h6, k6⟩
    have K6 := hid (K5.out.trans k6)
    have kx6 := hid (k6.web kx5.out)
    have hln := h6.len A hA
    rw [hLn.out] at hln
    replace hln := hid hln
    replace hu := hid hu
    clear hwl k6 K5 kx5 h6
    go_wp2_with fail
    refine hln.out.mono ?_
    rintro e w7 ⟨rfl, h7, k7⟩
    have K7 := hid (K6.out.trans k7)
    have kx7 := hid (k7.web kx6.out)
    have hsm := hid (h7.same A C hA hC S hS.out)
    have hu7 := hid (hu.out.keepD (.ofW k7))
    clear hln k7 K6 kx6 h7 hu
    go_wp2_with fail
    refine hsm.out.mono ?_
    rintro e w8 ⟨rfl, h8, k8⟩
    have K8 := hid (K7.out.trans k8)
    have kx8 := k8.web kx7.out
    have hu8 := hu7.out.keepD (.ofW k8)
    have hR8 := hR.out.keepD (.ofW K8.out)
    obtain ⟨c0, c1, c2, c3⟩ := blk4 kx8
    have hf1 : Hid (Calls Tryz.prog 39 #[.slice (some ⟨fb, 0, none⟩) F fcap, .int .i64 (A : Int)] w8 fun e w' => ∃ k : Int, e = .returned (.tuple #[.int .i64 (I : Int), .int .i64 k]) ∧ w8 = w') := hid (by
      have q := hR8.find t.out p.out hn A hA
      rw [hFl.out] at q
      refine q.mono ?_
      rintro e w' ⟨i, k, rfl, q1, _, rfl⟩
      rw [t.out.alone q1 hiA.out]
      exact ⟨k, rfl, rfl⟩)
    have hf2 : Hid (Calls Tryz.prog 39 #[.slice (some ⟨fb, 0, none⟩) F fcap, .int .i64 (C : Int)] w8 fun e w' => ∃ k : Int, e = .returned (.tuple #[.int .i64 (J : Int), .int .i64 k]) ∧ w8 = w') := hid (by
      have q := hR8.find t.out p.out hn C hC
      rw [hFl.out] at q
      refine q.mono ?_
      rintro e w' ⟨i, k, rfl, q1, _, rfl⟩
      rw [t.out.alone q1 hiC.out]
      exact ⟨k, rfl, rfl⟩)
    have hwr := rwalk_ok _ A w8 hR8 t.out p.out hn hA
    rw [hFl.out] at hwr
    replace hwr := hid hwr
    replace hu8 := hid hu8
    replace hR8 := hid hR8
    replace h8 := hid h8
    replace kx8 := hid kx8
    clear hsm k8 K7 kx7 hu7 hR
    go_wp2_with fail
    refine hf1.out.mono ?_
    rintro e y1 ⟨k1', rfl, rfl⟩
    clear hf1
    go_wp2_with fail
    refine hf2.out.mono ?_
    rintro e y2 ⟨k2', rfl, rfl⟩
    clear hf2
    go_wp2_with fail
    refine hwr.out.mono ?_
    rintro e w9 ⟨v, rfl, hv, b9⟩
    have hll : (rot (sq (A + 1)) (A + 1)).length ≤ 4294967296 := by
      rw [rot_len]
      have := Tie.len t.out
      have := p.out.len (A + 1) (by omega)
      omega
    have h9 := h8.out.more b9
    have K9 := hid (K8.out.trans (.ofBelow b9))
    have kx9 := hid (Below.web b9 kx8.out)
    have hR9 := hR8.out.keepD (.ofBelow b9)
    have hin := hid (ints_ok u v _ w9 ((hu8.out.below b9).ns hll) (Rw.ns (l := rot (sq (A + 1)) (A + 1)) ⟨_, hv⟩ hll))
    replace h9 := hid h9
    replace hR9 := hid hR9
    clear hwr hv b9 K8 h8 kx8 hu8 hR8 hll c0 c1 c2 c3
    go_wp2_with fail
    refine hin.out.mono ?_
    rintro e w10 ⟨rfl, b10⟩
    have fin := hid (And.intro (h9.out.more b10) (K9.out.trans (.ofBelow b10)))
    have kx10 := Below.web b10 kx9.out
    have hR10 := hR9.out.keepD (.ofBelow b10)
    obtain ⟨c0, c1, c2, c3⟩ := blk4 kx10
    have hrow := fun (cap : Nat) (hR : Rf w10 (.slice (some ⟨fb, 0, none⟩) ls.length cap) ls) => hR.row hiA.out
    obtain ⟨g', o', c', hcell⟩ := hrow _ hR10
    rw [hLn.out] at hcell
    clear hin b10 h9 K9 kx9 hR9 hR10 hrow kx10
    go_wp2_with fail
    go_ret
    exact ⟨rfl, fin.out⟩
end
end Go.Proofs.YtdmkbcbgjdmgdaaGreatDoor
