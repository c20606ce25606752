/- The document's Next, walked. -/
import Derived.Test.YtieglcjfphmglaaDoorWith10
namespace Go.Proofs.YtieglcjfphmglaaDoor
open Go.RowKit
set_option linter.unusedVariables false

theorem pv_at {l : List Nat} {x i : Nat} (hn : l.Nodup) (hi : l[i]? = some x) : l[(i + l.length - 1) % l.length]? = some (pv l x) := by
  obtain ⟨hlt, hxe⟩ := List.getElem?_eq_some_iff.1 hi
  have hk : (i + l.length - 1) % l.length < l.length := Nat.mod_lt _ (by omega)
  have hy : l[(i + l.length - 1) % l.length]? = some l[(i + l.length - 1) % l.length] := List.getElem?_eq_getElem hk
  have := nx_at hn hy
  rw [Nat.mod_add_mod, show i + l.length - 1 + 1 = i + l.length from by omega, Nat.add_mod_right, Nat.mod_eq_of_lt hlt, hi] at this
  rw [hy, Option.some.inj this, pv_nx hn (List.mem_of_getElem? hy)]

/-- So many steps on, by places: what the document reckons. -/
theorem step_at (n i : Nat) (by' : Int) (hn : 0 < n) (hi : i < n) (hb : by' = 1 ∨ by' = -1) (hs : n ≤ 1000) : ∃ k : Nat, k < n ∧ (IntKind.i64.wrap (IntKind.i64.wrap ((i : Int) + by') + (n : Int))).tmod (n : Int) = (k : Int) ∧ (by' = 1 → k = (i + 1) % n) ∧ (by' = -1 → k = (i + n - 1) % n) := by
  have w1 : IntKind.i64.wrap ((i : Int) + by') = (i : Int) + by' := by rw [IntKind.wrap_i64]; omega
  have w2 : IntKind.i64.wrap ((i : Int) + by' + (n : Int)) = (i : Int) + by' + (n : Int) := by rw [IntKind.wrap_i64]; omega
  rw [w1, w2, Int.tmod_eq_emod_of_nonneg (by omega)]
  rcases hb with rfl | rfl
  · refine ⟨(i + 1) % n, Nat.mod_lt _ hn, ?_, fun _ => rfl, fun h => by omega⟩
    rw [show (i : Int) + 1 + (n : Int) = ((i + 1 + n : Nat) : Int) from by omega, ← Int.natCast_emod, Nat.add_mod_right]
  · refine ⟨(i + n - 1) % n, Nat.mod_lt _ hn, ?_, fun h => by omega, fun _ => rfl⟩
    rw [show (i : Int) + -1 + (n : Int) = ((i + n - 1 : Nat) : Int) from by omega, ← Int.natCast_emod]

set_option maxRecDepth 100000 in
set_option maxHeartbeats 4000000 in
theorem rnext_ok (tv : Value) (E V u d z : Nat) (R : Nat → List Nat) (by' : Int) (w : World) (hv : RT w tv E V R) (ht : Tn V E R) (hu : u < V) (hd : d ∈ R u) (hb : by' = 1 ∨ by' = -1) (hz1 : by' = 1 → nx (R u) d = z) (hz2 : by' = -1 → pv (R u) d = z) (hV : V ≤ 1000) (hl : ∀ u, u < V → (R u).length ≤ 1000) :
    Calls Tryd.prog 41 #[tv, .int .i64 (d : Int), .int .i64 by'] w fun e w' => e = .returned (.int .i64 (z : Int)) ∧ Below w.heap.size w w' := by
  have hf := hid (fun y (hy : Below w.heap.size w y) => rfind_ok tv E V R (d : Int) y (hv.below hy) hV hl)
  obtain ⟨lv, rfl, hr⟩ := hv
  obtain ⟨c0, c1⟩ := two_new w (.int .i64 (E : Int)) lv 26
  have hbb := hid (balloc w (.cells #[.int .i64 (E : Int), lv] 26))
  have hr1 := hr.below hbb.out
  obtain ⟨ad, cap, rfl, hcap, ⟨hcap2, _⟩, hro⟩ := hr1
  obtain ⟨b1, o1, x, rfl, cx, hx⟩ := hro u hu
  obtain ⟨ad2, n2, cap2, rfl, hn2, _, _, hcell⟩ := hx
  obtain ⟨w1, hw1⟩ : ∃ w1, w.alloc (.cells #[.int .i64 (E : Int), .slice (some ⟨b1, o1, none⟩) V cap] 26) = w1 := ⟨_, rfl⟩
  rw [hw1] at c0 c1 hbb cx hcell
  have hlu := hl u hu
  rw [hn2] at hlu
  have hnd := ht.nd u hu
  replace ht := hid ht
  clear hr hro hl
  go_enter Tryd.func41, Tryd.ntmps41
  go_wp2_with fail
  try rw [hw1]
  refine (hf.out w1 hbb.out).mono ?_
  rintro e w2 ⟨r, s, rfl, hat, b2⟩
  obtain ⟨rfl, i, rfl, hi⟩ := At.found ht.out hu hd hat
  have hilt : i < n2 := by have := (List.getElem?_eq_some_iff.1 hi).1; omega
  obtain ⟨k, hk, hmod, hk1, hk2⟩ := step_at n2 i by' (by omega) hilt hb hlu
  obtain ⟨y, hy⟩ : ∃ y, (R u)[k]? = some y := ⟨_, List.getElem?_eq_getElem (by omega)⟩
  have hyis : Hid (z = y) := hid (by
    rcases hb with rfl | rfl
    · have := nx_at hnd hi
      rw [hn2, ← hk1 rfl, hy] at this
      rw [← hz1 rfl]
      exact (Option.some.inj this).symm
    · have := pv_at hnd hi
      rw [hn2, ← hk2 rfl, hy] at this
      rw [← hz2 rfl]
      exact (Option.some.inj this).symm)
  obtain ⟨b3, o3, rfl, cy⟩ := hcell k y hy
  have up : ∀ {a : Addr} {x : Value}, w1.cell? a = some x → w2.cell? a = some x := fun hc => (b2.cell (World.block_lt_of_cell? _ _ hc)).trans hc
  have e0 := up c0
  have e1 := up c1
  have ex := up cx
  have ey := up cy
  have hb2 : Hid (Below w.heap.size w w2) := hbb.out.trans (b2.mono hbb.out.size)
  have i1 : (0 : Int) ≤ (u : Int) := by omega
  have i2 : (u : Int) < (V : Int) := by omega
  have i3 : (0 : Int) ≤ (k : Int) := by omega
  have i4 : (k : Int) < (n2 : Int) := by omega
  have z1 : ¬ (n2 = 0) := by omega
  have z2 : ¬ ((n2 : Int) = 0) := by omega
  replace hn2 := hid hn2
  clear hat hi hcell up c0 c1 cx cy b2 hy hk1 hk2 hb hd hf hz1 hz2
  go_wp2_with fail
  go_quiet (fail)
  go_wp2_with fail
  go_ret
  exact ⟨by rw [hyis.out]; rfl, belowN hb2.out _⟩

end Go.Proofs.YtieglcjfphmglaaDoor
