/- The document's Lay, walked. -/
import Derived.Test.YtghpjljnbdjmaaaGreatDoorBfind
import Derived.Test.YtghpjljnbdjmaaaGreatDoorPut10
import Derived.Deep.CutBlock
namespace Go.Proofs.YtghpjljnbdjmaaaGreatDoor
open Go.RowKit
set_option linter.unusedVariables false

/-- What Lay keeps: its arguments in blocks of their own, and the answer's. -/
def Fk (s : Nat) (E : Nat) (lv : Value) (a0 a1 b0 b1 : Int) (y : World) : Prop :=
  y.heap[s]? = some (.cells #[.int .i64 (E : Int), lv] 27 (0, 0)) ∧ y.heap[s + 1]? = some (.cells #[.int .i64 a0, .int .i64 a1] 23 (0, 0)) ∧ y.heap[s + 2]? = some (.cells #[.int .i64 b0, .int .i64 b1] 23 (0, 0)) ∧ y.heap[s + 3]? = some (.cells #[.int .i64 0, .slice none 0 0] 27 (0, 0))

theorem Fk.below {s E : Nat} {lv : Value} {a0 a1 b0 b1 : Int} {y y' : World} (h : Fk s E lv a0 a1 b0 b1 y) (hb : Below y.heap.size y y') : Fk s E lv a0 a1 b0 b1 y' := by
  obtain ⟨h1, h2, h3, h4⟩ := h
  have k : ∀ {g : Nat} {o : Obj}, y.heap[g]? = some o → y'.heap[g]? = some o := fun {g o} hg => (hb.block g (Array.getElem?_eq_some_iff.1 hg).1).trans hg
  exact ⟨k h1, k h2, k h3, k h4⟩

theorem Fk.new (w : World) (E : Nat) (lv : Value) (a0 a1 b0 b1 : Int) : Fk w.heap.size E lv a0 a1 b0 b1 ((((w.alloc (.cells #[.int .i64 (E : Int), lv] 27)).alloc (.cells #[.int .i64 a0, .int .i64 a1] 23)).alloc (.cells #[.int .i64 b0, .int .i64 b1] 23)).alloc (.cells #[.int .i64 0, .slice none 0 0] 27)) := by
  obtain ⟨w1, hw1⟩ : ∃ w1, w.alloc (.cells #[.int .i64 (E : Int), lv] 27) = w1 := ⟨_, rfl⟩
  have s1 : w1.heap.size = w.heap.size + 1 := by rw [← hw1]; exact World.size_alloc _ _
  have h1 : w1.heap[w.heap.size]? = some (.cells #[.int .i64 (E : Int), lv] 27 (0, 0)) := by rw [← hw1]; exact heap_alloc_new w _
  rw [hw1]
  obtain ⟨w2, hw2⟩ : ∃ w2, w1.alloc (.cells #[.int .i64 a0, .int .i64 a1] 23) = w2 := ⟨_, rfl⟩
  have s2 : w2.heap.size = w.heap.size + 2 := by rw [← hw2, World.size_alloc, s1]
  have h2 : w2.heap[w.heap.size + 1]? = some (.cells #[.int .i64 a0, .int .i64 a1] 23 (0, 0)) := by rw [← hw2, ← s1]; exact heap_alloc_new w1 _
  have b2 : Below w1.heap.size w1 w2 := by rw [← hw2]; exact balloc _ _
  rw [hw2]
  obtain ⟨w3, hw3⟩ : ∃ w3, w2.alloc (.cells #[.int .i64 b0, .int .i64 b1] 23) = w3 := ⟨_, rfl⟩
  have s3 : w3.heap.size = w.heap.size + 3 := by rw [← hw3, World.size_alloc, s2]
  have h3 : w3.heap[w.heap.size + 2]? = some (.cells #[.int .i64 b0, .int .i64 b1] 23 (0, 0)) := by rw [← hw3, ← s2]; exact heap_alloc_new w2 _
  have b3 : Below w2.heap.size w2 w3 := by rw [← hw3]; exact balloc _ _
  rw [hw3]
  have b4 := balloc w3 (.cells #[.int .i64 0, .slice none 0 0] 27)
  have h4 := heap_alloc_new w3 (.cells #[.int .i64 0, .slice none 0 0] 27)
  rw [s3] at h4
  refine ⟨?_, ?_, ?_, h4⟩
  · rw [b4.block _ (by omega), b3.block _ (by omega), b2.block _ (by omega)]; exact h1
  · rw [b4.block _ (by omega), b3.block _ (by omega)]; exact h2
  · rw [b4.block _ (by omega)]; exact h3

theorem rput_co (tv : Value) (E V u d : Nat) (bh : Int) (R : Nat → List Nat) (w : World) (hv : RT w tv E V R) (hnd : (R u).Nodup) (hu : u < V) (hV : V ≤ 1000) (hl : (R u).length ≤ 1000) (hb : ∀ y, co bh = some y → y ∈ R u) (hbh : bh = -1 ∨ 0 ≤ bh) :
    Calls Tryz.prog 99 #[tv, .int .i64 (d : Int), .int .i64 (u : Int), .int .i64 bh] w fun e w' => ∃ tv', e = .returned tv' ∧ RT w' tv' E V (putR R u (co bh) d) ∧ Below w.heap.size w w' := by
  rcases hbh with rfl | h0
  · have := rput_ok tv E V u d (R u).length (-1) R w hv hnd hu hV hl (.inl ⟨fun y _ => by omega, rfl⟩)
    rw [List.take_length, List.drop_length] at this
    exact this
  · obtain ⟨k, rfl⟩ : ∃ k : Nat, bh = (k : Int) := ⟨bh.toNat, by omega⟩
    rw [co_some] at hb ⊢
    obtain ⟨p, hp⟩ := List.getElem?_of_mem (hb k rfl)
    have := rput_ok tv E V u d (p + 1) (k : Int) R w hv hnd hu hV hl (.inr ⟨k, p, rfl, hp, rfl⟩)
    rw [← ins_at hnd hp] at this
    exact this

theorem Co.bh {V : Nat} {R : Nat → List Nat} {v : Nat} {b : Int} (h : Co V R (v : Int) b) : b = -1 ∨ 0 ≤ b := by
  obtain ⟨u, e, _, h1 | ⟨d, rfl, h2⟩⟩ := h
  · exact .inl h1.1
  · exact .inr (by omega)

set_option maxRecDepth 100000 in
set_option maxHeartbeats 600000 in
theorem rlay_ok (tv : Value) (E V e u v : Nat) (a1 b1 : Int) (R : Nat → List Nat) (w : World) (hv : RT w tv E V R) (ht : Tn V E R) (he : e < E) (hu : u < V) (hvv : v < V) (hE : E ≤ 100) (hV : V ≤ 1000)
    (hin : ¬ In V R (2 * e)) (hca : Co V R (u : Int) a1) (hcb : Co V R (v : Int) b1) :
    Calls Tryz.prog 66 #[tv, .int .i64 (e : Int), .agg #[.int .i64 (u : Int), .int .i64 a1], .agg #[.int .i64 (v : Int), .int .i64 b1]] w fun x w' => ∃ tv', x = .returned (.tuple #[tv', .int .i64 0]) ∧ RT w' tv' E V (layR R e u v (co a1) (co b1)) ∧ Below w.heap.size w w' := by
  have hl' : ∀ u, u < V → (R u).length ≤ 1000 := fun u hu => by have := ht.len hu; omega
  have ht1 := ht.put hu hca.mem hin (show 2 * e < 2 * E by omega)
  have hf := hid (fun y (hy : Below w.heap.size w y) => rfind_ok tv E V R (2 * (e : Int)) y (hv.below hy) hV hl')
  have hca' := hid (fun y (hy : Below w.heap.size w y) => rcorner_any tv E V u R a1 y (hv.below hy) ht hu hV hl')
  have hcb' := hid (fun y (hy : Below w.heap.size w y) => rcorner_any tv E V v R b1 y (hv.below hy) ht hvv hV hl')
  have hp1 := hid (fun y (hy : Below w.heap.size w y) => rput_co tv E V u (2 * e) a1 R y (hv.below hy) (ht.nd u hu) hu hV (hl' u hu) hca.mem hca.bh)
  have hp2 := hid (fun tv1 y (hy : RT y tv1 E V (putR R u (co a1) (2 * e))) => rput_co tv1 E V v (2 * e + 1) b1 (putR R u (co a1) (2 * e)) y hy (ht1.nd v hvv) hvv hV (by have := ht1.len hvv; omega) (lay_b hcb.mem hca.mem) hcb.bh)
  have z1 : ((2 * e : Nat) : Int) = 2 * (e : Int) := by omega
  have z2 : ((2 * e + 1 : Nat) : Int) = 2 * (e : Int) + 1 := by omega
  rw [z1] at hp1
  rw [z2] at hp2
  have z3 : IntKind.i64.wrap (2 * (e : Int)) = 2 * (e : Int) := by rw [IntKind.wrap_i64]; omega
  have z4 : IntKind.i64.wrap (2 * (e : Int) + 1) = 2 * (e : Int) + 1 := by rw [IntKind.wrap_i64]; omega
  clear z1 z2
  have hfin : Hid (putR (putR R u (co a1) (2 * e)) v (co b1) (2 * e + 1) = layR R e u v (co a1) (co b1)) := rfl
  rw [hfin.out] at hp2
  obtain ⟨lv, rfl, hr⟩ := hv
  have hr1 := hr
  obtain ⟨ad, cap, rfl, _⟩ := hr1
  have hk := hid (Fk.new w E (.slice ad V cap) u a1 v b1)
  obtain ⟨w1, hw1⟩ : ∃ w1, ((((w.alloc (.cells #[.int .i64 (E : Int), .slice ad V cap] 27)).alloc (.cells #[.int .i64 (u : Int), .int .i64 a1] 23)).alloc (.cells #[.int .i64 (v : Int), .int .i64 b1] 23)).alloc (.cells #[.int .i64 0, .slice none 0 0] 27)) = w1 := ⟨_, rfl⟩
  have hb1 : Hid (Below w.heap.size w w1) := by
    rw [← hw1]
    exact hid (((((Below.refl w.heap.size w).alloc (Nat.le_refl _) _).alloc (by simp) _).alloc (by simp; omega) _).alloc (by simp; omega) _)
  rw [hw1] at hk
  obtain ⟨c1, c2, _, _⟩ := blk2 hk.out.1
  have d1 : decide ((e : Int) < 0) = false := decide_eq_false (by omega)
  have d2 : decide ((E : Int) ≤ (e : Int)) = false := decide_eq_false (by omega)
  have d2' : decide (E ≤ e) = false := decide_eq_false (by omega)
  replace hw1 := hid hw1
  clear hr ht ht1
  go_enter Tryz.func66, Tryz.ntmps66
  go_upto_region 1 with fail
  rw [hw1.out]
  go_wp2_with fail
  refine (hf.out w1 hb1.out).mono ?_
  rintro x2 w2 ⟨r, s, rfl, hat, b2⟩
  obtain ⟨rfl, rfl⟩ := At.none (fun k hk x hx hxe => hin ⟨k, hk, by obtain rfl : x = 2 * e := by omega
                                                                    exact hx⟩) hat
  have k2 := hid (hk.out.below b2)
  have hb2 : Hid (Below w.heap.size w w2) := hb1.out.trans (b2.mono hb1.out.size)
  obtain ⟨c3, c4, _, _⟩ := blk2 k2.out.1
  obtain ⟨c5, c6, _, _⟩ := blk2 k2.out.2.1
  clear c1 c2 b2 hat hf hw1
  go_wp2_with fail
  refine (hca'.out w2 hb2.out).mono ?_
  rintro x3 w3 ⟨c, rfl, hcc, b3⟩
  obtain rfl : c = 0 := by rcases hcc with h | h; exact h.1; exact absurd hca h.2
  have k3 := hid (k2.out.below b3)
  have hb3 : Hid (Below w.heap.size w w3) := hb2.out.trans (b3.mono hb2.out.size)
  obtain ⟨c1, c2, _, _⟩ := blk2 k3.out.1
  obtain ⟨c7, c8, _, _⟩ := blk2 k3.out.2.2.1
  clear c3 c4 c5 c6 b3 hcc hca' k2
  go_wp2_with fail
  refine (hcb'.out w3 hb3.out).mono ?_
  rintro x4 w4 ⟨c, rfl, hcc, b4⟩
  obtain rfl : c = 0 := by rcases hcc with h | h; exact h.1; exact absurd hcb h.2
  have k4 := hid (k3.out.below b4)
  have hb4 : Hid (Below w.heap.size w w4) := hb3.out.trans (b4.mono hb3.out.size)
  obtain ⟨c3, c4, _, _⟩ := blk2 k4.out.1
  obtain ⟨c5, c6, _, _⟩ := blk2 k4.out.2.1
  obtain ⟨c9, c10, _, _⟩ := blk2 k4.out.2.2.1
  clear c1 c2 c7 c8 b4 hcc hcb' k3 hk hb1 hb2 hb3 hca hcb hin
  go_wp2_with fail
  go_region_held3 (fun y => y.cell? ⟨w.heap.size, 0, none⟩ = some (.int .i64 (E : Int)) ∧ y.cell? ⟨w.heap.size, 1, none⟩ = some (.slice ad V cap) ∧ y.cell? ⟨w.heap.size + 1, 0, none⟩ = some (.int .i64 (u : Int)) ∧ y.cell? ⟨w.heap.size + 1, 1, none⟩ = some (.int .i64 a1) ∧ y.cell? ⟨w.heap.size + 2, 0, none⟩ = some (.int .i64 (v : Int)) ∧ y.cell? ⟨w.heap.size + 2, 1, none⟩ = some (.int .i64 b1)) (first | exact ⟨c3, c4, c5, c6, c9, c10⟩ | exact ⟨g3, g4, g5, g6, g9, g10⟩ | exact ⟨h3, h4, h5, h6, h9, h10⟩ | exact ⟨(cell_set2 (by show w.heap.size ≠ w.heap.size + 1 + 1 + 1; omega) _ _).trans h3, (cell_set2 (by show w.heap.size ≠ w.heap.size + 1 + 1 + 1; omega) _ _).trans h4, (cell_set2 (by show w.heap.size + 1 ≠ w.heap.size + 1 + 1 + 1; omega) _ _).trans h5, (cell_set2 (by show w.heap.size + 1 ≠ w.heap.size + 1 + 1 + 1; omega) _ _).trans h6, (cell_set2 (by show w.heap.size + 2 ≠ w.heap.size + 1 + 1 + 1; omega) _ _).trans h9, (cell_set2 (by show w.heap.size + 2 ≠ w.heap.size + 1 + 1 + 1; omega) _ _).trans h10⟩ | go_keep) ((first
    | (go_at_call 99; refine (hp1.out _ hb4.out.drew).mono ?_; rintro x5 w5 ⟨tv1, rfl, ⟨lv1, rfl, hr5⟩, b5⟩; have k5 := hid (Fk.below (y := w4.drew) k4.out b5); have hb5 : Hid (Below w.heap.size w w5) := hb4.out.drew.trans (b5.mono hb4.out.size); obtain ⟨g3, g4, _, _⟩ := blk2 k5.out.1; obtain ⟨g5, g6, _, _⟩ := blk2 k5.out.2.1; obtain ⟨g9, g10, _, _⟩ := blk2 k5.out.2.2.1; replace hr5 := hid hr5; clear b5 hp1)
    | (go_at_call 99; refine (hp2.out _ w5 ⟨_, rfl, hr5.out⟩).mono ?_; rintro x6 w6 ⟨tv2, rfl, ⟨lv2, rfl, hr6⟩, b6⟩; have k6 := hid (Fk.below k5.out b6); have hb6 : Hid (Below w.heap.size w w6) := hb5.out.trans (b6.mono hb5.out.size); obtain ⟨h3, h4, _, _⟩ := blk2 k6.out.1; obtain ⟨h5, h6, _, _⟩ := blk2 k6.out.2.1; obtain ⟨h9, h10, _, _⟩ := blk2 k6.out.2.2.1; obtain ⟨f1, f2, f3, f4⟩ := blk2 k6.out.2.2.2; have hr6' := hr6; obtain ⟨ad3, cp3, rfl, _⟩ := hr6'; replace hr6 := hid hr6; clear b6 hp2)))
  have hfin2 := hid (set2_block k6.out.2.2.2 (.int .i64 (E : Int)) (.slice ad3 V cp3))
  have hnr := hid (hr6.out.al (set2_al k6.out.2.2.2 (.int .i64 (E : Int)) (.slice ad3 V cp3)))
  have hbl := hid (below2 hb6.out (show w.heap.size ≤ w.heap.size + 3 by omega) (.int .i64 (E : Int)) (.slice ad3 V cp3))
  go_wp2_with fail
  refine bodyPost_ret (results_cell2 rfl _ _ (w.heap.size + 3) 27 _ (0, 0) _ rfl hfin2.out Tryz.underlying27 rfl (by kernel_rfl)) rfl ?_
  exact ⟨_, rfl, ⟨_, rfl, hnr.out⟩, hbl.out⟩

end Go.Proofs.YtghpjljnbdjmaaaGreatDoor
