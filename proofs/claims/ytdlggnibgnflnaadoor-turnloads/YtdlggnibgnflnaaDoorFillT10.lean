/- 'fill', walked. -/
import Derived.Test.YtdlggnibgnflnaaDoorTLay10
import Derived.Test.YtdlggnibgnflnaaDoorWith10
import Derived.Test.YtdlggnibgnflnaaDoorLoadP10
import Derived.Test.YtdlggnibgnflnaaDoorIntsM10
namespace Go.Proofs.YtdlggnibgnflnaaDoor
open Go.RowKit
set_option linter.unusedVariables false

/-- The corner behind the last one. -/
def Le (l : List Nat) (b : Int) : Prop := (b = -1 ∧ l = []) ∨ ∃ A, ∃ y : Nat, b = (y : Int) ∧ l = A ++ [y]

theorem Le.co {V : Nat} {R : Nat → List Nat} {v : Nat} {b : Int} (h : Le (R v) b) (hv : v < V) : Co V R (v : Int) b := by
  rcases h with ⟨rfl, h⟩ | ⟨A, y, rfl, h⟩
  · exact ⟨v, rfl, hv, .inl ⟨rfl, h⟩⟩
  · exact ⟨v, rfl, hv, .inr ⟨y, rfl, by rw [h]; simp⟩⟩

theorem Le.put {V E : Nat} {R : Nat → List Nat} {v d : Nat} {b : Int} (h : Le (R v) b) (hv : v < V) (ht : Tn V E R) : putR R v (Proofs.YtdlggnibgnflnaaDoor.co b) d = upd R v (R v ++ [d]) := by
  unfold putR
  congr 1
  rcases h with ⟨rfl, h⟩ | ⟨A, y, rfl, h⟩
  · rw [co_none]; rfl
  · rw [co_some, h]
    have hn := ht.nd v hv
    rw [h] at hn
    exact ins_last hn

theorem TA.cE {w : World} {lo tb V E : Nat} {R : Nat → List Nat} (h : TA w lo tb V E R) : w.cell? ⟨tb, 1, none⟩ = some (.int .i64 (E : Int)) := by
  obtain ⟨dv, sv, K, M, D, S, h1, h2⟩ := h
  exact h1.c1

set_option maxRecDepth 100000 in
set_option maxHeartbeats 4000000 in
theorem fill_ok {W w : World} {tb V E v : Nat} {ls : List (List Int)} {l : List Int} {u : Value} (h : TA w W.heap.size tb V E (RR ls v 0)) (hl : ls[v]? = some l) (hv : v < V) (hu : IV W u l) (hB : Below W.heap.size W w) :
    Calls Tryd.prog 44 #[.pointer (some ⟨tb, 0, none⟩), .int .i64 (v : Int), u] w fun x w' => ∃ z : Bool, x = .returned (.bool z) ∧ Kp W.heap.size w w' ∧ (z = true → (∀ k d, l[k]? = some d → okD V E (RR ls v k) d) ∧ TA w' W.heap.size tb V E (RR ls (v + 1) 0)) ∧ (z = false → ∃ k d, l[k]? = some d ∧ ¬ okD V E (RR ls v k) d) := by
  have hEb := h.hE
  have hVb := h.hV
  obtain ⟨ad, n, cap, rfl, hs⟩ := hu
  have hlen := hs.len
  have hbig := hs.big
  replace hs := hid hs
  replace hB := hid hB
  replace hl := hid hl
  have hg0 := hid (heap_alloc_new w (.cells #[.int .i64 (v : Int), .int .i64 (-1)] 48))
  have hb0 := hid (balloc w (.cells #[.int .i64 (v : Int), .int .i64 (-1)] 48))
  have h0 := hid (h.more hb0.out)
  clear h
  obtain ⟨wa, hwa⟩ : ∃ wa, w.alloc (.cells #[.int .i64 (v : Int), .int .i64 (-1)] 48) = wa := ⟨_, rfl⟩
  rw [hwa] at hg0 hb0 h0
  replace hwa := hid hwa
  go_enter Tryd.func44, Tryd.ntmps44
  go_wp2_with fail
  rw [hwa.out]
  clear hwa
  go_loopw [9, 14] (fun _ s14 wr => ∃ (k : Nat) (b : Int), k ≤ n ∧ s14 = .int .i64 (k : Int) ∧ Hid (wr.heap[w.heap.size]? = some (.cells #[.int .i64 (v : Int), .int .i64 b] 48 (0, 0)) ∧ TA wr W.heap.size tb V E (RR ls v k) ∧ Kp W.heap.size w wr ∧ (∀ j d, j < k → l[j]? = some d → okD V E (RR ls v j) d) ∧ Le (RR ls v k v) b)) (fun _ s14 _ => n - (intOf s14).toNat)
  case atStart => exact ⟨0, -1, by omega, by go_num, hg0.out, h0.out, Kp.ofBelow hb0.out _, fun j d hj => by omega, .inl ⟨rfl, by rw [RR_self]; simp⟩⟩
  case round =>
    obtain ⟨k, b, hk, rfl, hst⟩ := hrel
    have hlo : W.heap.size ≤ w.heap.size := hB.out.size
    by_cases hc : k < n
    · obtain ⟨z, hz⟩ : ∃ z, l[k]? = some z := ⟨_, List.getElem?_eq_getElem (by omega)⟩
      have hBr := hB.out.trans (hst.out.2.2.1.below hlo)
      obtain ⟨ab, ao, rfl, cz⟩ := (hs.out.below hBr).cell k z hz
      have t1 : decide ((k : Int) < (n : Int)) = true := decide_eq_true (by omega)
      replace hz := hid hz
      clear hBr hg0 h0 hb0
      by_cases hr : z < 0 ∨ 2 * (E : Int) ≤ z
      · have hcv := hid (covers_no z hEb hst.out.2.1.cE hr)
        replace hr := hid hr
        go_wp2_with fail
        refine hcv.out.mono ?_
        rintro x w2 ⟨rfl, rfl⟩
        go_wp2_with fail
        go_ret
        refine ⟨false, rfl, hst.out.2.2.1, by simp, fun _ => ⟨k, z, hz.out, fun hq => ?_⟩⟩
        obtain ⟨q1, q2, _⟩ := hq
        rcases hr.out with q | q <;> omega
      · obtain ⟨d, rfl⟩ : ∃ d : Nat, z = (d : Int) := ⟨z.toNat, by omega⟩
        have hd : d < 2 * E := by omega
        have hcv := hid (covers_yes d hEb hst.out.2.1.cE hd)
        obtain ⟨a, p, o, hat, _, _, _, ho⟩ := at_any hst.out.2.1 (d : Int)
        replace hat := hid hat
        replace ho := hid ho
        clear hr
        by_cases hi : In V (RR ls v k) d
        · have hne : o ≠ -1 := fun e => (ho.out.1 e) ⟨d, rfl, hi⟩
          have hla := hid (fun y => dlaid_yes (a : Int) (p : Int) o y hne)
          replace hi := hid hi
          clear hne
          go_wp2_with fail
          refine hcv.out.mono ?_
          rintro x w2 ⟨rfl, rfl⟩
          go_wp2_with fail
          refine (hat.out _ (Below.refl _ _)).mono ?_
          rintro x w3 ⟨rfl, b3⟩
          replace b3 := hid b3
          go_wp2_with fail
          refine (hla.out _).mono ?_
          rintro x w4 ⟨rfl, b4⟩
          have hb4 := hid (b3.out.trans (b4.mono b3.out.size))
          clear b4
          go_wp2_with fail
          go_ret
          exact ⟨false, rfl, hst.out.2.2.1.trans (Kp.ofBelow hb4.out _), by simp, fun _ => ⟨k, _, hz.out, fun hq => hq.2.2 (by simpa using hi.out)⟩⟩
        · obtain rfl : o = -1 := ho.out.2 (fun ⟨d', e, hd'⟩ => by
            obtain rfl : d = d' := by omega
            exact hi hd')
          have hla := hid (fun y => dlaid_no (a : Int) (p : Int) y)
          have hok : Hid (okD V E (RR ls v k) (d : Int)) := ⟨by omega, by omega, by simpa using hi⟩
          have hco := hst.out.2.2.2.2.co hv
          have hpe := hst.out.2.2.2.2.put (d := d) hv hst.out.2.1.tn
          have hrs := RR_step hl.out hz.out
          have hpt := hid (fun y (hy : TA y W.heap.size tb V E (RR ls v k)) => hy.putc d v b hco hd hi)
          rw [hpe, show d = ((d : Int)).toNat by simp, ← hrs] at hpt
          simp only [Int.toNat_natCast] at hpt
          replace hi := hid hi
          clear hco hpe hrs
          go_wp2_with fail
          refine hcv.out.mono ?_
          rintro x w2 ⟨rfl, rfl⟩
          go_wp2_with fail
          refine (hat.out _ (Below.refl _ _)).mono ?_
          rintro x w3 ⟨rfl, b3⟩
          replace b3 := hid b3
          go_wp2_with fail
          refine (hla.out _).mono ?_
          rintro x w4 ⟨rfl, b4⟩
          have hb4 := hid (b3.out.trans (b4.mono b3.out.size))
          have ha4 := hid (hst.out.2.1.more hb4.out)
          have hk4 := hid (hst.out.2.2.1.trans (Kp.ofBelow hb4.out W.heap.size))
          have hg4 := hid ((hb4.out.block _ (Array.getElem?_eq_some_iff.1 hst.out.1).1).trans hst.out.1)
          have hold := hid hst.out.2.2.2.1
          have hle := hid hst.out.2.2.2.2
          clear b4 b3 hb4 hst hat hcv hla cz
          obtain ⟨q0, q1, _, _⟩ := blk2' hg4.out
          go_wp2_with fail
          refine (hpt.out _ ha4.out).mono ?_
          rintro x w5 ⟨rfl, a5, k5⟩
          have hg5 := hid ((k5.keep ⟨_, _, hg4.out⟩ (by decide) (by decide) (by decide)).trans hg4.out)
          have hk5 := hid (hk4.out.trans k5)
          have s1 := hid (a5.setc (k := 1) ⟨_, _, hg5.out⟩ (.int .i64 (d : Int)))
          have s2 := hid (hk5.out.setNew (p := ⟨w.heap.size, 1, none⟩) (Nat.le_refl _) (.int .i64 (d : Int)))
          have s3 := hid (set_block (k := 1) hg5.out (.int .i64 (d : Int)))
          clear a5 k5 hk4 hg4 ha4 q0 q1 hpt
          obtain ⟨q0, q1, f0, f1⟩ := blk2' hg5.out
          go_wp2_with fail
          go_roundw
          case rel =>
            refine ⟨k + 1, (d : Int), by omega, by go_num, s3.out, s1.out, s2.out, fun j d' hj hd' => ?_, .inr ⟨RR ls v k v, d, rfl, ?_⟩⟩
            · by_cases e : j = k
              · subst e
                obtain rfl : (d : Int) = d' := Option.some.inj (hz.out.symm.trans hd')
                exact hok.out
              · exact hold.out j d' (by omega) hd'
            · rw [RR_step hl.out hz.out, upd_same]
              simp
          case measure => simp [intOf]; omega
    · obtain rfl : n = k := by omega
      have t1 : decide ((n : Int) < (n : Int)) = false := decide_eq_false (by omega)
      clear hg0 h0 hb0
      go_wp2_with fail
      go_ret
      refine ⟨true, rfl, hst.out.2.2.1, fun _ => ⟨fun j d hd => hst.out.2.2.2.1 j d (by have := (List.getElem?_eq_some_iff.1 hd).1; omega) hd, ?_⟩, by simp⟩
      have := hst.out.2.1
      rw [← hlen, RR_next hl.out] at this
      exact this

end Go.Proofs.YtdlggnibgnflnaaDoor
