/- The document's At and Same, walked. -/
import Derived.Test.YtegljhbjjdfhiaaGreatDoorFAt11
import Derived.Test.YtegljhbjjdfhiaaGreatDoorRWalk11
namespace Go.Proofs.YtegljhbjjdfhiaaGreatDoor
open Go.RowKit
set_option linter.unusedVariables false

/-- The turns and one pair in two blocks; and a second pair. -/
def K3 (s E : Nat) (lv : Value) (a0 a1 b0 b1 : Int) (y : World) : Prop := y.heap[s]? = some (.cells #[.int .i64 (E : Int), lv] 29 (0, 0)) ∧ y.heap[s + 1]? = some (.cells #[.int .i64 a0, .int .i64 a1] 23 (0, 0)) ∧ y.heap[s + 2]? = some (.cells #[.int .i64 b0, .int .i64 b1] 23 (0, 0))

theorem K3.new (w : World) (E : Nat) (lv : Value) (a0 a1 b0 b1 : Int) : K3 w.heap.size E lv a0 a1 b0 b1 (((w.alloc (.cells #[.int .i64 (E : Int), lv] 29)).alloc (.cells #[.int .i64 a0, .int .i64 a1] 23)).alloc (.cells #[.int .i64 b0, .int .i64 b1] 23)) := by
  refine ⟨?_, ?_, ?_⟩
  · exact (Below.heap_alloc _ _ _ (by simp; omega)).trans ((Below.heap_alloc _ _ _ (by simp)).trans (heap_alloc_new w _))
  · have := heap_alloc_new (w.alloc (.cells #[.int .i64 (E : Int), lv] 29)) (.cells #[.int .i64 a0, .int .i64 a1] 23)
    rw [World.size_alloc] at this
    exact (Below.heap_alloc _ _ _ (by simp)).trans this
  · have := heap_alloc_new ((w.alloc (.cells #[.int .i64 (E : Int), lv] 29)).alloc (.cells #[.int .i64 a0, .int .i64 a1] 23)) (.cells #[.int .i64 b0, .int .i64 b1] 23)
    rw [World.size_alloc, World.size_alloc] at this
    exact this

theorem K3.below {s E : Nat} {lv : Value} {a0 a1 b0 b1 : Int} {y y' : World} (h : K3 s E lv a0 a1 b0 b1 y) (hb : Below y.heap.size y y') : K3 s E lv a0 a1 b0 b1 y' :=
  ⟨(hb.block _ (Array.getElem?_eq_some_iff.1 h.1).1).trans h.1, (hb.block _ (Array.getElem?_eq_some_iff.1 h.2.1).1).trans h.2.1, (hb.block _ (Array.getElem?_eq_some_iff.1 h.2.2).1).trans h.2.2⟩

theorem K3.cells {s E : Nat} {lv : Value} {a0 a1 b0 b1 : Int} {y : World} (h : K3 s E lv a0 a1 b0 b1 y) : y.cell? ⟨s, 0, none⟩ = some (.int .i64 (E : Int)) ∧ y.cell? ⟨s, 1, none⟩ = some lv ∧ y.cell? ⟨s + 1, 0, none⟩ = some (.int .i64 a0) ∧ y.cell? ⟨s + 1, 1, none⟩ = some (.int .i64 a1) ∧ y.cell? ⟨s + 2, 0, none⟩ = some (.int .i64 b0) ∧ y.cell? ⟨s + 2, 1, none⟩ = some (.int .i64 b1) := by
  obtain ⟨q0, q1, _, _⟩ := blk2 h.1
  obtain ⟨p0, p1, _, _⟩ := blk2 h.2.1
  obtain ⟨r0, r1, _, _⟩ := blk2 h.2.2
  exact ⟨q0, q1, p0, p1, r0, r1⟩

set_option maxRecDepth 100000 in
set_option maxHeartbeats 2000000 in
theorem rat_ok (tv : Value) (E V u : Nat) (b : Int) (R : Nat → List Nat) (w : World) (hv : RT w tv E V R) (ht : Tn V E R) (hco : Co V R (u : Int) b) (hV : V ≤ 1000) (hl : ∀ u, u < V → (R u).length ≤ 1000) :
    Calls Tryz.prog 43 #[tv, .agg #[.int .i64 (u : Int), .int .i64 b]] w fun e w' => e = .returned (.int .i64 (fa V R b)) ∧ Below w.heap.size w w' := by
  have hfa := fa_in ht hco
  have hn := hid (fun (d : Nat) (hd : d ∈ R u) (hu : u < V) y (hy : Below w.heap.size w y) => rnext_ok tv E V u d (vx V R d) R 1 y (hv.below hy) ht hu hd (.inl rfl) (fun _ => (vx_at ht hu hd).symm) (fun q => by omega) hV hl)
  obtain ⟨lv, rfl, hr⟩ := hv
  have hbz : Below w.heap.size w ((w.alloc (.cells #[.int .i64 (E : Int), lv] 29)).alloc (.cells #[.int .i64 (u : Int), .int .i64 b] 23)) := (balloc w _).alloc (by simp) _
  have h1 : ((w.alloc (.cells #[.int .i64 (E : Int), lv] 29)).alloc (.cells #[.int .i64 (u : Int), .int .i64 b] 23)).heap[w.heap.size]? = some (.cells #[.int .i64 (E : Int), lv] 29 (0, 0)) := (Below.heap_alloc _ _ _ (by simp)).trans (heap_alloc_new w _)
  have h2 : ((w.alloc (.cells #[.int .i64 (E : Int), lv] 29)).alloc (.cells #[.int .i64 (u : Int), .int .i64 b] 23)).heap[w.heap.size + 1]? = some (.cells #[.int .i64 (u : Int), .int .i64 b] 23 (0, 0)) := by
    have := heap_alloc_new (w.alloc (.cells #[.int .i64 (E : Int), lv] 29)) (.cells #[.int .i64 (u : Int), .int .i64 b] 23)
    rw [World.size_alloc] at this
    exact this
  obtain ⟨w1, hw1⟩ : ∃ w1, (w.alloc (.cells #[.int .i64 (E : Int), lv] 29)).alloc (.cells #[.int .i64 (u : Int), .int .i64 b] 23) = w1 := ⟨_, rfl⟩
  rw [hw1] at hbz h1 h2
  obtain ⟨c0, c1, _, _⟩ := blk2 h1
  obtain ⟨c2, c3, _, _⟩ := blk2 h2
  replace hw1 := hid hw1
  replace hbz := hid hbz
  clear hr ht hco hl h1 h2
  rcases hfa with ⟨rfl, _, _, e3⟩ | ⟨d, rfl, _, e2, hu, e3, _⟩
  · rw [e3]
    clear e3 hn
    go_enter Tryz.func43, Tryz.ntmps43
    go_upto_region 1 with fail
    rw [hw1.out]
    go_wp2_with fail
    go_ret
    exact ⟨rfl, hbz.out⟩
  · rw [e3]
    replace hn := hid (hn.out d e2 hu w1 hbz.out)
    have t1 : ((d : Int) == -1) = false := by simp
    have t2 : ¬ ((d : Int) = -1) := by omega
    clear e3 e2
    go_enter Tryz.func43, Tryz.ntmps43
    go_upto_region 1 with fail
    rw [hw1.out]
    go_wp2_with fail
    refine hn.out.mono ?_
    rintro x w2 ⟨rfl, b2⟩
    have hb2 := hid (hbz.out.trans (b2.mono hbz.out.size))
    clear b2
    go_wp2_with fail
    go_ret
    exact ⟨rfl, hb2.out⟩

set_option maxRecDepth 100000 in
set_option maxHeartbeats 4000000 in
theorem rsame_ok (tv : Value) (E V u v : Nat) (a b : Int) (s : Bool) (R : Nat → List Nat) (w : World) (hv : RT w tv E V R) (ht : Tn V E R) (hw : Tw V E R) (ha : Co V R (u : Int) a) (hb : Co V R (v : Int) b) (hs : s = true ↔ One V R u v (co a) (co b)) (hE : E ≤ 1000) (hV : V ≤ 1000) (hl : ∀ u, u < V → (R u).length ≤ 1000) :
    Calls Tryz.prog 20 #[tv, .agg #[.int .i64 (u : Int), .int .i64 a], .agg #[.int .i64 (v : Int), .int .i64 b]] w fun e w' => e = .returned (.bool s) ∧ Below w.heap.size w w' := by
  have hfa := fa_in ht ha
  have hfb := fa_in ht hb
  have hat := hid (fun y (hy : Below w.heap.size w y) => rat_ok tv E V u a R y (hv.below hy) ht ha hV hl)
  have hbt := hid (fun y (hy : Below w.heap.size w y) => rat_ok tv E V v b R y (hv.below hy) ht hb hV hl)
  have hwk := hid (fun (x : Nat) (hx : In V R x) y (hy : Below w.heap.size w y) => rwalk_ok tv E V x R y (hv.below hy) ht hw hx hE hV hl)
  have hon := hid (one_none ht ha hb)
  have hpm := hid (fx_pm ht hw)
  have hlow : Hid (∀ x, In V R x → x < 2 * E) := hid (fun x hx => hx.low ht)
  obtain ⟨lv, rfl, hr⟩ := hv
  have hk := K3.new w E lv (u : Int) a (v : Int) b
  have hbz : Below w.heap.size w (((w.alloc (.cells #[.int .i64 (E : Int), lv] 29)).alloc (.cells #[.int .i64 (u : Int), .int .i64 a] 23)).alloc (.cells #[.int .i64 (v : Int), .int .i64 b] 23)) := ((balloc w _).alloc (by simp) _).alloc (by simp; omega) _
  obtain ⟨w1, hw1⟩ : ∃ w1, ((w.alloc (.cells #[.int .i64 (E : Int), lv] 29)).alloc (.cells #[.int .i64 (u : Int), .int .i64 a] 23)).alloc (.cells #[.int .i64 (v : Int), .int .i64 b] 23) = w1 := ⟨_, rfl⟩
  rw [hw1] at hbz hk
  replace hw1 := hid hw1
  replace hbz := hid hbz
  replace hk := hid hk
  have hF : Hid (∀ y, Below w1.heap.size w1 y → _) := hid (fun y hy => (hk.out.below hy).cells)
  replace hs := hid hs
  clear hr ht hw ha hb hl
  go_enter Tryz.func20, Tryz.ntmps20
  go_upto_region 1 with fail
  rw [hw1.out]
  go_region_held3 (fun y => y.cell? ⟨w.heap.size, 0, none⟩ = some (.int .i64 (E : Int)) ∧ y.cell? ⟨w.heap.size, 1, none⟩ = some lv ∧ y.cell? ⟨w.heap.size + 1, 0, none⟩ = some (.int .i64 (u : Int)) ∧ y.cell? ⟨w.heap.size + 1, 1, none⟩ = some (.int .i64 a) ∧ y.cell? ⟨w.heap.size + 2, 0, none⟩ = some (.int .i64 (v : Int)) ∧ y.cell? ⟨w.heap.size + 2, 1, none⟩ = some (.int .i64 b)) (first | exact hF.out _ (Below.refl _ _).drew | exact hF.out _ b2.out | exact hF.out _ b3.out | go_keep) ((first
    | (go_at_call 43; refine (hbt.out w2 (hbz.out.trans (b2.out.mono hbz.out.size))).mono ?_; rintro x w3 ⟨rfl, bq⟩; have b3 : Hid (Below w1.heap.size w1 w3) := b2.out.trans (bq.mono b2.out.size); clear bq)
    | (go_at_call 43; refine (hat.out _ hbz.out.drew).mono ?_; rintro x w2 ⟨rfl, bq⟩; have b2 : Hid (Below w1.heap.size w1 w2) := hid ((Below.refl w1.heap.size w1).drew.trans bq); clear bq)))
  obtain ⟨c0, c1, c2, c3, c4, c5⟩ := hF.out _ b3.out
  have hb3 := hid (hbz.out.trans (b3.out.mono hbz.out.size))
  clear hat hbt b2 hF
  rcases hfa with ⟨rfl, ea, _, e3⟩ | ⟨d, rfl, ea, e2, hu, e3, e4⟩
  · rw [e3] at hon ⊢
    rcases hfb with ⟨rfl, eb, _, g3⟩ | ⟨c, rfl, eb, g2, hv', g3, g4⟩
    · rw [g3] at hon ⊢
      have ho := hon.out (.inl rfl)
      by_cases huv : (u : Int) = (v : Int)
      · obtain rfl : s = true := hs.out.2 (ho.2 ⟨huv, rfl⟩)
        have t1 : ((u : Int) == (v : Int)) = true := by simp [huv]
        obtain rfl : u = v := by omega
        clear ho hon e3 g3 hs huv
        go_wp2_with fail
        go_ret
        exact ⟨rfl, hb3.out⟩
      · obtain rfl : s = false := by
          cases s with
          | false => rfl
          | true => exact absurd (ho.1 (hs.out.1 rfl)).1 huv
        have t1 : ((u : Int) == (v : Int)) = false := by simp; omega
        clear ho hon e3 g3 hs
        go_wp2_with fail
        go_ret
        exact ⟨rfl, hb3.out⟩
    · have ho := hon.out (.inl rfl)
      obtain rfl : s = false := by
        cases s with
        | false => rfl
        | true => have := (ho.1 (hs.out.1 rfl)).2; omega
      rw [g3]
      generalize vx V R c = z
      have t1 : ((-1 : Int) == (z : Int)) = false := by rw [beq_eq_false_iff_ne]; omega
      have t2 : ¬ ((-1 : Int) = (z : Int)) := by omega
      clear ho hon e3 g3 hs
      go_wp2_with fail
      go_ret
      exact ⟨rfl, hb3.out⟩
  · rcases hfb with ⟨rfl, eb, _, g3⟩ | ⟨c, rfl, eb, g2, hv', g3, g4⟩
    · rw [g3] at hon ⊢
      have ho := hon.out (.inr rfl)
      obtain rfl : s = false := by
        cases s with
        | false => rfl
        | true => have := (ho.1 (hs.out.1 rfl)).2; omega
      rw [e3]
      generalize vx V R d = z
      have t1 : ((z : Int) == (-1 : Int)) = false := by simp
      have t2 : ¬ ((z : Int) = (-1 : Int)) := by omega
      have t3 : decide ((z : Int) < 0) = false := decide_eq_false (by omega)
      clear ho hon e3 g3 hs
      go_wp2_with fail
      go_ret
      exact ⟨rfl, hb3.out⟩
    · rw [e3, g3]
      have hs2 : Hid (s = true ↔ vx V R c ∈ Pq.orb (fx V R) (vx V R d)) := by
        have := hs.out
        rw [ea, eb] at this
        exact hid (this.trans (hpm.out.mem_orb (hlow.out _ e4)).symm)
      have hwx := hid (hwk.out (vx V R d) e4 w3 hb3.out)
      generalize vx V R c = y at *
      generalize vx V R d = x at *
      have t1 : decide ((x : Int) < 0) = false := decide_eq_false (by omega)
      have t2 : decide ((y : Int) < 0) = false := decide_eq_false (by omega)
      clear hon e3 g3 hs hwk
      go_wp2_with fail
      refine hwx.out.mono ?_
      rintro q w4 ⟨rv, rfl, hrw, b4⟩
      have hb4 := hid (hb3.out.trans (b4.mono hb3.out.size))
      have hnl := hrw.nl
      clear b4 hwx hrw c0 c1 c2 c3 c4 c5
      generalize Pq.orb (fx V R) x = ws at *
      obtain ⟨a7, n7, c7, rfl, hlen7, ⟨hn7, _, _⟩, hc7, hce⟩ := hnl
      unfold maxLen at hc7
      replace hlen7 := hid hlen7
      replace hce := hid hce
      go_wp2_with fail
      go_loopw [10] (fun s10 wr => ∃ j : Nat, j ≤ n7 ∧ s10 = .int .i64 (j : Int) ∧ Hid (∀ i z, i < j → ws[i]? = some z → z ≠ y) ∧ Hid (wr = w4)) (fun s10 _ => n7 - (intOf s10).toNat)
      case atStart => exact ⟨0, by omega, by go_num, fun i z hi => by omega, rfl⟩
      case round =>
        obtain ⟨j, hj, rfl, hno, hwr⟩ := hrel
        have hwr' := hwr.out
        subst hwr'
        clear hwr
        rcases Nat.lt_or_ge j n7 with hjl | hjg
        · obtain ⟨z, hz⟩ : ∃ z, ws[j]? = some z := ⟨_, List.getElem?_eq_getElem (by rw [hlen7.out]; exact hjl)⟩
          obtain ⟨b8, o8, rfl, ez⟩ := hce.out j z hz
          have v1 : decide ((j : Int) < (n7 : Int)) = true := decide_eq_true (by omega)
          have j1 : (0 : Int) ≤ (j : Int) := by omega
          have j2 : (j : Int) < (n7 : Int) := by omega
          by_cases ezy : z = y
          · obtain rfl : s = true := hs2.out.2 (ezy ▸ List.mem_of_getElem? hz)
            have t3 : ((z : Int) == (y : Int)) = true := by simp [ezy]
            subst ezy
            clear hz hno
            go_wp2_with fail
            go_ret
            exact ⟨rfl, hb4.out⟩
          · have t3 : ((z : Int) == (y : Int)) = false := by simp; omega
            have t4 : ¬ ((z : Int) = (y : Int)) := by omega
            have hno2 : Hid (∀ i z, i < j + 1 → ws[i]? = some z → z ≠ y) := hid (fun i z' hi hz' => by
              by_cases e : i = j
              · subst e
                rw [hz] at hz'
                cases hz'
                exact ezy
              · exact hno.out i z' (by omega) hz')
            clear hz hno
            go_wp2_with fail
            go_roundw
            case rel => exact ⟨j + 1, by omega, by go_num, hno2, by first | exact trivial | exact rfl⟩
            case measure => simp [intOf]; omega
        · obtain rfl : j = n7 := by omega
          obtain rfl : s = false := by
            cases s with
            | false => rfl
            | true =>
              obtain ⟨i, hi⟩ := List.getElem?_of_mem (hs2.out.1 rfl)
              exact absurd rfl (hno.out i y (by rw [← hlen7.out]; exact (List.getElem?_eq_some_iff.1 hi).1) hi)
          have v1 : decide ((j : Int) < (j : Int)) = false := decide_eq_false (by omega)
          clear hno
          go_wp2_with fail
          go_ret
          exact ⟨rfl, hb4.out⟩

end Go.Proofs.YtegljhbjjdfhiaaGreatDoor
