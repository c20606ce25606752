/- 'SeqOnce', walked. -/
import Derived.Test.YtcbkebllbchpiaaDoorSeen4
namespace Go.Proofs.YtcbkebllbchpiaaDoor
open Go.RowKit
set_option linter.unusedVariables false

/-- Where an item stands among those of its sequence. -/
theorem rank_is {S A B : List Nat} {d k : Nat} (hn : S.Nodup) (h1 : S = A ++ d :: B) (h2 : S[k]? = some d) : A.length = k := by
  have h3 : S[A.length]? = some d := by rw [h1, List.getElem?_append_right (Nat.le_refl _)]; simp
  have l1 := (List.getElem?_eq_some_iff.1 h2).1
  have l2 := (List.getElem?_eq_some_iff.1 h3).1
  have e1 := (List.getElem?_eq_some_iff.1 h2).2
  have e2 := (List.getElem?_eq_some_iff.1 h3).2
  exact (List.getElem_inj hn).1 (e2.trans e1.symm)

/-- What the outer loop knows. -/
structure OK (K : Nat) (seq : Nat → List Nat) (P : Nat → Bool) (x : Nat) : Prop where
  closed : ∀ d, d ≠ 0 → P d = true → ∀ y, y ∈ seq d → P y = true
  all : ∀ i, i < x → P (i + 1) = true

set_option maxRecDepth 100000 in
set_option maxHeartbeats 8000000 in
theorem once_law (n : Int) (ad : Option Addr) (qs : List Act4) (cap : Nat) (w : World) (hg : Handle w) (hq : Acts w ad qs) :
    Calls Tryd.prog 5 #[.int .i64 n, .slice ad qs.length cap] w fun e w' => e = .returned (.bool true) ∧ Below w.heap.size w w' := by
  obtain ⟨K, hK, hK1, hK2⟩ := mod_up n 60 (by decide) (by decide)
  have hql := hq.bound
  have hg := hid hg
  have hq := hid hq
  go_enter Tryd.func5, Tryd.ntmps5
  go_wp2_with fail
  try rw [hK]
  refine (new_ok K w (by omega) (by omega)).mono ?_
  rintro e w1 ⟨fb, rfl, h1⟩
  have st1 : Hid (∃ v seq, FS w.heap.size w fb K v seq w1) := ⟨_, _, h1⟩
  have hK60 : K ≤ 60 := by omega
  clear h1 hK hK2
  go_wp2_with fail
  go_loopw [8, 9, 10, 74] (fun u _ _ _ wr => ∃ t : Nat, t ≤ qs.length ∧ t ≤ 200 ∧ u = .int .i64 (t : Int) ∧ Hid (∃ v seq, FS w.heap.size w fb K v seq wr)) (fun u _ _ _ _ => 200 - (intOf u).toNat)
  case atStart => exact ⟨0, by omega, by omega, by go_num, st1⟩
  case round =>
    clear st1
    obtain ⟨t, ht1, ht2, rfl, hst⟩ := hrel
    by_cases hgo : t < qs.length ∧ t < 200
    · obtain ⟨hgo1, hgo2⟩ := hgo
      obtain ⟨q, hqt⟩ : ∃ q, qs[t]? = some q := ⟨_, List.getElem?_eq_getElem hgo1⟩
      obtain ⟨v, seq, h1⟩ := hst.out
      cases ad with
      | none => have := hq.out.nil rfl; subst this; simp at hgo1
      | some a0 =>
        obtain ⟨c0, c1, c2, c3⟩ := (hq.out.below h1.below).at hqt
        have h1 := hid h1
        obtain ⟨a, ha, haK⟩ := mod_inN q.a K hK1 (by omega)
        obtain ⟨b, hb, hbK⟩ := mod_inN q.b K hK1 (by omega)
        obtain ⟨κ, hκ, hκ8⟩ := mod_inN q.k 8 (by decide) (by decide)
        have i1 : (0 : Int) ≤ (t : Int) := by omega
        have i2 : (t : Int) < (qs.length : Int) := by omega
        clear hqt hst
        go_wp2_with fail
        go_region
        rw [ha, hb]
        have h2 := hid (h1.out.more (Below.refl _ _).drew)
        generalize hwd : wr.drew = w2 at h2 ⊢
        have d0 : w2.cell? (a0.add (t * 4)) = some (.int .i64 q.k) := by rw [← hwd]; exact c0
        have hκ : wrap64 ((IntKind.u64.wrap q.k).tmod 8) = (κ : Int) := hκ
        clear h1 c0 c1 c2 c3 ha hb hwd
        have kinds : κ = 3 ∨ κ = 4 ∨ κ = 5 ∨ κ = 6 ∨ (κ ≠ 3 ∧ κ ≠ 4 ∧ κ ≠ 5 ∧ κ ≠ 6) := by omega
        rcases kinds with rfl | rfl | rfl | rfl | ⟨n3, n4, n5, n6⟩
        iterate 2
          · go_wp2_with fail
            refine (h2.out.cutAny a haK).mono ?_
            rintro e w3 ⟨r3, rfl, ⟨seq3, h3⟩, _⟩
            have st4 : Hid (∃ v seq, FS w.heap.size w fb K v seq w3) := ⟨_, _, h3⟩
            clear h2 h3 d0 hκ
            go_wp2_with fail
            go_roundw
            case rel => exact ⟨t + 1, by omega, by omega, by go_num, st4⟩
            case measure => simp [intOf]; omega
        iterate 2
          · go_wp2_with fail
            refine (h2.out.reverseAny a haK).mono ?_
            rintro e w3 ⟨r3, rfl, ⟨seq3, h3⟩, _⟩
            have st4 : Hid (∃ v seq, FS w.heap.size w fb K v seq w3) := ⟨_, _, h3⟩
            clear h2 h3 d0 hκ
            go_wp2_with fail
            go_roundw
            case rel => exact ⟨t + 1, by omega, by omega, by go_num, st4⟩
            case measure => simp [intOf]; omega
        · have k3 : ((κ : Int) == 3) = false := by rw [beq_eq_false_iff_ne]; omega
          have k4 : ((κ : Int) == 4) = false := by rw [beq_eq_false_iff_ne]; omega
          have k5 : ((κ : Int) == 5) = false := by rw [beq_eq_false_iff_ne]; omega
          have k6 : ((κ : Int) == 6) = false := by rw [beq_eq_false_iff_ne]; omega
          go_wp2_with fail
          refine (h2.out.joinAny a b haK hbK).mono ?_
          rintro e w3 ⟨r3, rfl, ⟨seq3, h3⟩, _⟩
          have st4 : Hid (∃ v seq, FS w.heap.size w fb K v seq w3) := ⟨_, _, h3⟩
          clear h2 h3 d0 hκ
          go_wp2_with fail
          go_roundw
          case rel => exact ⟨t + 1, by omega, by omega, by go_num, st4⟩
          case measure => simp [intOf]; omega
    · have hstop : qs.length ≤ t ∨ (t < qs.length ∧ 200 ≤ t) := by omega
      obtain ⟨v, seq, h1⟩ := hst.out
      have hpart := hid h1.part
      have hlw := Nat.le_trans h1.lw h1.below.size
      have h1 := hid h1
      have hmk := make_ints K (by omega) wr
      have h2 := hid (h1.out.alloc (.cells (cnt K (fun _ => false)).toArray 3))
      have s2 : Hid (Seen (wr.alloc (.cells (cnt K (fun _ => false)).toArray 3)) wr.heap.size K (fun _ => false)) := hid (heap_alloc_new wr _)
      clear hgo hst
      rcases hstop with hstop | ⟨hstop1, hstop2⟩
      all_goals
        go_upto_region 18 with fail
        generalize wr.heap.size = sb at s2 hlw ⊢
        generalize wr.alloc (.cells (cnt K (fun _ => false)).toArray 3) = w2 at s2 h2 ⊢
        clear hmk h1
        have st2 : Hid (∃ P, FS w.heap.size w fb K v seq w2 ∧ Seen w2 sb K P ∧ OK K seq P 0) := ⟨_, h2.out, s2.out, ⟨fun d _ h => (by cases h), fun i h => (by omega)⟩⟩
        clear h2 s2
        go_wp2_with fail
        go_loopw [12, 13, 14, 15, 16, 17, 18, 19] (fun u _ _ _ _ _ _ _ wr => ∃ x : Nat, x ≤ K ∧ u = .int .i64 (x : Int) ∧ Hid (∃ P, FS w.heap.size w fb K v seq wr ∧ Seen wr sb K P ∧ OK K seq P x)) (fun u _ _ _ _ _ _ _ _ => K - (intOf u).toNat)
        case atStart => exact ⟨0, by omega, by go_num, st2⟩
        case round =>
          clear st2
          obtain ⟨x, hxK, rfl, hst⟩ := hrel
          obtain ⟨P, h3, s3, ok3⟩ := hst.out
          rcases Nat.lt_or_ge x K with hlt | hge
          · have x1 : (0 : Int) ≤ (x : Int) := by omega
            have x2 : (x : Int) < (K : Int) := by omega
            cases hP : P (x + 1) with
            | true =>
              have cs := s3.cell hlt (z := 1) (by rw [hP]; rfl)
              have st4 : Hid (∃ P, FS w.heap.size w fb K v seq wr ∧ Seen wr sb K P ∧ OK K seq P (x + 1)) := ⟨P, h3, s3, ok3.closed, fun i hi => by
                rcases Nat.lt_or_ge i x with h | h
                · exact ok3.all i h
                · rw [show i = x from by omega]; exact hP⟩
              clear hst h3 s3 ok3 hP
              go_wp2_with fail
              go_roundw
              case rel => exact ⟨x + 1, by omega, by go_num, st4⟩
              case measure => simp [intOf]; omega
            | false =>
              have cs := s3.cell hlt (z := 0) (by rw [hP]; rfl)
              have h3 := hid h3
              have s3 := hid s3
              have ok3 := hid ok3
              have hPh := hid hP
              clear hst hP
              go_wp2_with fail
              refine (h3.out.listN x hlt).mono ?_
              rintro e w4 ⟨u4, rfl, ⟨base, hbase, r4⟩, h4, k4⟩
              obtain ⟨S, hS⟩ : ∃ S, seq (x + 1) = S := ⟨_, rfl⟩
              have hSh := hid hS
              rw [hS] at r4
              have hsb := hbase sb _ _ _ s3.out (by decide) (by decide)
              obtain ⟨ua, uc, hu4⟩ := row_slice r4
              have hSl : S.length ≤ 8388610 := by rw [← hS]; exact hpart.out.len (x + 1) (by omega)
              subst hu4
              have st4 : Hid (∃ Q, FS w.heap.size w fb K v seq w4 ∧ Seen w4 sb K Q ∧ w4.ownsRow base 3 1 (.slice ua S.length uc) S.length (S.map itm) ∧ ∀ d, Q d = (P d || (S.take 0).contains d)) := ⟨P, h4, s3.out.keep k4, r4, fun d => by simp⟩
              clear h3 s3 hbase r4 h4 k4 cs hS
              go_wp2_with fail
              go_loopw [15, 16, 17, 18, 19] (fun u _ _ _ _ wr => ∃ k : Nat, k ≤ S.length ∧ u = .int .i64 (k : Int) ∧ Hid (∃ Q, FS w.heap.size w fb K v seq wr ∧ Seen wr sb K Q ∧ wr.ownsRow base 3 1 (.slice ua S.length uc) S.length (S.map itm) ∧ ∀ d, Q d = (P d || (S.take k).contains d))) (fun u _ _ _ _ _ => S.length - (intOf u).toNat)
              case atStart => exact ⟨0, by omega, by go_num, st4⟩
              case round =>
                clear st4
                obtain ⟨k, hkS, rfl, hst⟩ := hrel
                obtain ⟨Q, h5, s5, r5, hQ⟩ := hst.out
                rcases Nat.lt_or_ge k S.length with hkl | hkg
                · obtain ⟨d0, hd0⟩ : ∃ d, S[k]? = some d := ⟨_, List.getElem?_eq_getElem hkl⟩
                  have hm0 : d0 ∈ seq (x + 1) := by rw [hSh.out]; exact List.mem_of_getElem? hd0
                  have hmm := hpart.out.mem (x + 1) d0 (by omega) hm0
                  have hdle := hpart.out.le (x + 1) d0 (by omega) (by omega) hm0
                  obtain ⟨d, rfl⟩ : ∃ d, d0 = d + 1 := ⟨d0 - 1, by have := hmm.2; omega⟩
                  have hdK : d < K := by omega
                  have hnd : S.Nodup := by rw [← hSh.out]; exact hpart.out.nd (x + 1) (by omega)
                  have hQd : Q (d + 1) = false := by
                    rw [hQ, Bool.or_eq_false_iff]
                    constructor
                    · cases hPd : P (d + 1) with
                      | false => rfl
                      | true =>
                        have := ok3.out.closed (d + 1) (by omega) hPd (x + 1) (by rw [hmm.1]; exact hpart.out.self _ (by omega))
                        rw [hPh.out] at this
                        cases this
                    · rw [List.contains_eq_mem, decide_eq_false_iff_not]
                      intro hin
                      obtain ⟨j, hj⟩ := List.mem_iff_getElem?.1 hin
                      rw [List.getElem?_take] at hj
                      split at hj
                      · next hjk =>
                        have l1 := (List.getElem?_eq_some_iff.1 hj).1
                        have e1 := (List.getElem?_eq_some_iff.1 hj).2
                        have e2 := (List.getElem?_eq_some_iff.1 hd0).2
                        have := (List.getElem_inj hnd).1 (e1.trans e2.symm)
                        omega
                      · cases hj
                  obtain ⟨g, hua, hcr⟩ : ∃ g, ua = some ⟨g, 0, none⟩ ∧ ∀ y : World, y.ownsRow base 3 1 (.slice ua S.length uc) S.length (S.map itm) → y.cell? ⟨g, k, none⟩ = some (.int .i64 (d : Int)) := by
                    obtain ⟨g, cap', hv, _, _⟩ := r5.form (by omega)
                    injection hv with e1 _ _
                    refine ⟨g, e1, fun y hy => ?_⟩
                    obtain ⟨ad', cap'', f1, _, f3⟩ := (show Rw y _ S from ⟨base, hy⟩).form
                    injection f1 with e2 _ _
                    obtain ⟨g', eg, hc⟩ := f3 _ (by rw [← e2]; exact e1)
                    cases eg
                    rw [hc k (d + 1) hd0]
                    unfold itm; congr 2; omega
                  subst hua
                  have hcr := hid hcr
                  have c5 := hcr.out wr r5
                  have cs5 := s5.cell hdK (z := 0) (by rw [hQd]; rfl)
                  have fs5 := s5.fro (i := d)
                  have hQ' : ∀ e, (fun e => Q e || e == d + 1) e = (P e || (S.take (k + 1)).contains e) := by
                    intro e
                    show (Q e || e == d + 1) = _
                    rw [hQ, List.take_add_one, hd0]
                    simp [List.contains_eq_mem, List.mem_append, Bool.or_assoc]
                    rfl
                  have q1 : (0 : Int) ≤ (k : Int) := by omega
                  have q2 : (k : Int) < (S.length : Int) := by omega
                  have q3 : (0 : Int) ≤ (d : Int) := by omega
                  have q4 : (d : Int) < (K : Int) := by omega
                  have z1 : decide ((d : Int) < 0) = false := decide_eq_false (by omega)
                  have z2 : decide ((K : Int) ≤ (d : Int)) = false := decide_eq_false (by omega)
                  have h6 := hid (h5.store (i := d) s5 hlw (.int .i64 1))
                  have s6 := hid (s5.mark hdK (P' := fun e => Q e || e == d + 1) (fun _ => rfl))
                  have r6 := hid (row_store (i := d) (x := .int .i64 1) r5 hsb)
                  have hrk := hid hmm.1
                  have hd0 := hid hd0
                  have hnd := hid hnd
                  clear hst h5 s5 r5 hQd hmm hm0 hQ
                  go_upto_region 31 with fail
                  generalize wr.setCell ⟨sb, d, none⟩ (.int .i64 1) = w6 at h6 s6 r6 ⊢
                  clear c5 cs5 fs5
                  have c6 := hcr.out w6 r6.out
                  go_wp2_with fail
                  refine (h6.out.rank d hdK).mono ?_
                  rintro e w7 ⟨A, B, eAB, rfl, h7, k7⟩
                  have hAk : A.length = k := rank_is hnd.out (by rw [← hSh.out, ← hrk.out]; exact eAB) hd0.out
                  rw [hAk]
                  have s7 := hid (s6.out.keep k7)
                  have r7 := hid (k7.row r6.out)
                  have h7 := hid h7
                  clear h6 s6 r6 c6 k7 eAB hAk
                  go_wp2_with fail
                  refine (h7.out.at x k hlt (by rw [hSh.out]; exact hkl)).mono ?_
                  rintro e w8 ⟨d', hd', rfl, h8, k8⟩
                  have e8 : d' = d := by
                    rw [hSh.out, hd0.out] at hd'
                    injection hd' with hd'
                    omega
                  subst e8
                  have r8 := k8.row r7.out
                  have c8 := hcr.out w8 r8
                  have st8 : Hid (∃ Q, FS w.heap.size w fb K v seq w8 ∧ Seen w8 sb K Q ∧ w8.ownsRow base 3 1 (.slice (some ⟨g, 0, none⟩) S.length uc) S.length (S.map itm) ∧ ∀ d, Q d = (P d || (S.take (k + 1)).contains d)) := ⟨_, h8, s7.out.keep k8, r8, hQ'⟩
                  clear h7 s7 r7 h8 k8 r8 hd' hQ'
                  go_wp2_with fail
                  go_roundw
                  case rel => exact ⟨k + 1, by omega, by go_num, st8⟩
                  case measure => simp [intOf]; omega
                · obtain rfl : k = S.length := by omega
                  have st9 : Hid (∃ P, FS w.heap.size w fb K v seq wr ∧ Seen wr sb K P ∧ OK K seq P (x + 1)) := by
                    refine ⟨Q, h5, s5, fun d hd hQd y hy => ?_, fun i hi => ?_⟩
                    · rw [hQ, List.take_length] at hQd ⊢
                      rcases Bool.or_eq_true _ _ |>.mp hQd with h | h
                      · rw [ok3.out.closed d hd h y hy]; rfl
                      · have hdS : d ∈ seq (x + 1) := by rw [hSh.out]; simpa [List.contains_eq_mem] using h
                        have e1 := (hpart.out.mem (x + 1) d (by omega) hdS).1
                        rw [e1, hSh.out] at hy
                        rw [show S.contains y = true from by simpa [List.contains_eq_mem] using hy, Bool.or_true]
                    · rw [hQ, List.take_length]
                      rcases Nat.lt_or_ge i x with h | h
                      · rw [ok3.out.all i h]; rfl
                      · rw [show i = x from by omega]
                        have : x + 1 ∈ S := by rw [← hSh.out]; exact hpart.out.self _ (by omega)
                        rw [show S.contains (x + 1) = true from by simpa [List.contains_eq_mem] using this, Bool.or_true]
                  clear hst h5 s5 r5 hQ hkS hkg
                  go_wp2_with fail
                  go_roundw
                  case rel => exact ⟨x + 1, by omega, by go_num, st9⟩
                  case measure => simp [intOf]; omega
          · obtain rfl : x = K := by omega
            have st5 : Hid (FS w.heap.size w fb x v seq wr ∧ Seen wr sb x P) := ⟨h3, s3⟩
            have hall := hid ok3.all
            clear hst h3 s3 ok3 hge hxK
            go_wp2_with fail
            go_loop [20] (fun u => ∃ j : Nat, j ≤ x ∧ u = .int .i64 (j : Int)) (fun u => x - (intOf u).toNat)
            case atStart => exact ⟨0, by omega, by go_num⟩
            case round =>
              obtain ⟨j, hj, rfl⟩ := hrel
              rcases Nat.lt_or_ge j x with hjl | hjg
              · have cs := st5.out.2.cell hjl (z := 1) (by rw [hall.out j hjl]; rfl)
                have q1 : (0 : Int) ≤ (j : Int) := by omega
                have q2 : (j : Int) < (x : Int) := by omega
                go_wp2_with fail
                go_round
                case rel => exact ⟨j + 1, by omega, by go_num⟩
                case measure => simp [intOf]; omega
              · go_wp2_with fail
                refine (sure_ok _ (st5.out.1.handle hg.out rfl)).mono ?_
                rintro e w9 ⟨rfl, b9⟩
                have h9 := hid (st5.out.1.more b9)
                clear b9
                go_wp2_with fail
                go_ret
                exact ⟨rfl, h9.out.below⟩

end Go.Proofs.YtcbkebllbchpiaaDoor
