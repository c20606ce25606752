/- 'Lay', walked. -/
import Derived.Test.YtghpjljnbdjmaaaGreatDoorBtakes
namespace Go.Proofs.YtghpjljnbdjmaaaGreatDoor
open Go.RowKit
set_option linter.unusedVariables false

section
variable {w : World} {lo tb V E : Nat} {R : Nat → List Nat}

set_option maxRecDepth 100000 in
set_option maxHeartbeats 1000000 in
theorem lay_nil (e a0 a1 b0 b1 : Int) (w : World) : Calls Tryz.prog 29 #[.pointer none, .int .i64 e, .agg #[.int .i64 a0, .int .i64 a1], .agg #[.int .i64 b0, .int .i64 b1]] w fun x w' => x = .returned (.iface 88 (.int .i64 1)) ∧ Below w.heap.size w w' := by
  have hh := hid (fun y => holds_nil e y)
  go_enter Tryz.func29, Tryz.ntmps29
  go_wp2_with fail
  refine (hh.out _).mono ?_
  rintro x w1 ⟨rfl, rfl⟩
  go_wp2_with fail
  go_ret
  exact ⟨rfl, (balloc _ _).alloc (by simp) _⟩

set_option maxRecDepth 100000 in
set_option maxHeartbeats 1000000 in
theorem lay_range (h : TA w lo tb V E R) (e a0 a1 b0 b1 : Int) (he : e < 0 ∨ (E : Int) ≤ e) : Calls Tryz.prog 29 #[.pointer (some ⟨tb, 0, none⟩), .int .i64 e, .agg #[.int .i64 a0, .int .i64 a1], .agg #[.int .i64 b0, .int .i64 b1]] w fun x w' => x = .returned (.iface 88 (.int .i64 12)) ∧ Below w.heap.size w w' := by
  obtain ⟨dv, sv, K, M, D, S, h1, h2⟩ := h
  have hh := hid (fun y (hy : Below w.heap.size w y) => holds_range e (h1.more hy) he)
  clear h1 h2 he
  go_enter Tryz.func29, Tryz.ntmps29
  go_wp2_with fail
  refine (hh.out _ ((balloc _ _).alloc (by simp) _)).mono ?_
  rintro x w1 ⟨rfl, rfl⟩
  go_wp2_with fail
  go_ret
  exact ⟨rfl, (balloc _ _).alloc (by simp) _⟩

set_option maxRecDepth 100000 in
set_option maxHeartbeats 1000000 in
theorem lay_same (h : TA w lo tb V E R) (e : Nat) (a0 a1 b0 b1 : Int) (he : e < E) (hi : In V R (2 * e)) : Calls Tryz.prog 29 #[.pointer (some ⟨tb, 0, none⟩), .int .i64 (e : Int), .agg #[.int .i64 a0, .int .i64 a1], .agg #[.int .i64 b0, .int .i64 b1]] w fun x w' => x = .returned (.iface 88 (.int .i64 20)) ∧ Below w.heap.size w w' := by
  obtain ⟨dv, sv, K, M, D, S, h1, h2⟩ := h
  have hh := hid (fun y (hy : Below w.heap.size w y) => holds_ok e true (h1.more hy) he (fun _ => (h2.laid _).2 hi) (fun q => by cases q))
  clear h1 h2 he hi
  go_enter Tryz.func29, Tryz.ntmps29
  go_wp2_with fail
  refine (hh.out _ ((balloc _ _).alloc (by simp) _)).mono ?_
  rintro x w1 ⟨rfl, b1⟩
  have hb := hid (((balloc w _).alloc (by simp) _).trans (b1.mono (by simp; omega)))
  clear b1
  go_wp2_with fail
  go_ret
  exact ⟨rfl, hb.out⟩

theorem infoCorner : (Tryz.prog.info? 60).map (fun i => (i.zero, i.size, i.bytes)) = some (some (.agg #[.int .i64 0, .int .i64 0]), 2, 16) := by kernel_rfl
theorem corner_at (a b c d : Int) (w : World) : (Instr.index 118 (.agg #[.int .i64 a, .int .i64 b, .int .i64 c, .int .i64 d]) (.int .i64 0)).run Tryz.prog w = .ok (.agg #[.int .i64 a, .int .i64 b]) w ∧ (Instr.index 118 (.agg #[.int .i64 a, .int .i64 b, .int .i64 c, .int .i64 d]) (.int .i64 1)).run Tryz.prog w = .ok (.agg #[.int .i64 c, .int .i64 d]) w := by
  obtain ⟨i0, hif, hz0, hz1, hz2⟩ := info_parts infoCorner
  constructor <;> simp [Instr.index, asIntOf, run_underlying Tryz.underlying118, part, Go.sizeOf, typeInfo, hif, hz1, isAgg, run_underlying Tryz.underlying60, go_sem]

/-- The two corners' blocks. -/
def Lk (w : World) (s : Nat) (a0 a1 b0 b1 : Int) : Prop := w.heap[s]? = some (.cells #[.int .i64 a0, .int .i64 a1] 60 (0, 0)) ∧ w.heap[s + 1]? = some (.cells #[.int .i64 b0, .int .i64 b1] 60 (0, 0))

theorem Lk.new (w : World) (a0 a1 b0 b1 : Int) : Lk ((w.alloc (.cells #[.int .i64 a0, .int .i64 a1] 60)).alloc (.cells #[.int .i64 b0, .int .i64 b1] 60)) w.heap.size a0 a1 b0 b1 := by
  refine ⟨(Below.heap_alloc _ _ _ (by simp)).trans (heap_alloc_new _ _), ?_⟩
  have := heap_alloc_new (w.alloc (.cells #[.int .i64 a0, .int .i64 a1] 60)) (.cells #[.int .i64 b0, .int .i64 b1] 60)
  simpa using this
theorem Lk.below {w w' : World} {s : Nat} {a0 a1 b0 b1 : Int} (h : Lk w s a0 a1 b0 b1) (hb : Below w.heap.size w w') : Lk w' s a0 a1 b0 b1 :=
  ⟨(hb.block _ (Array.getElem?_eq_some_iff.1 h.1).1).trans h.1, (hb.block _ (Array.getElem?_eq_some_iff.1 h.2).1).trans h.2⟩
theorem Lk.kp {w w' : World} {lo s : Nat} {a0 a1 b0 b1 : Int} (h : Lk w s a0 a1 b0 b1) (hk : Kp lo w w') : Lk w' s a0 a1 b0 b1 :=
  ⟨(hk.keep ⟨_, _, h.1⟩ (by decide) (by decide) (by decide)).trans h.1, (hk.keep ⟨_, _, h.2⟩ (by decide) (by decide) (by decide)).trans h.2⟩

set_option maxRecDepth 100000 in
set_option maxHeartbeats 2000000 in
theorem lay_bad (h : TA w lo tb V E R) (e : Nat) (a0 a1 b0 b1 : Int) (r ra rb : Value) (he : e < E) (hi : ¬ In V R (2 * e))
    (hca : ∀ y, Below w.heap.size w y → Calls Tryz.prog 63 #[.pointer (some ⟨tb, 0, none⟩), .agg #[.int .i64 a0, .int .i64 a1]] y fun x w' => x = .returned ra ∧ Below y.heap.size y w')
    (hcb : ∀ y, Below w.heap.size w y → Calls Tryz.prog 63 #[.pointer (some ⟨tb, 0, none⟩), .agg #[.int .i64 b0, .int .i64 b1]] y fun x w' => x = .returned rb ∧ Below y.heap.size y w')
    (hr : (∃ z, ra = .iface 88 (.int .i64 z) ∧ r = ra) ∨ (ra = .nilIface ∧ ∃ z, rb = .iface 88 (.int .i64 z) ∧ r = rb)) :
    Calls Tryz.prog 29 #[.pointer (some ⟨tb, 0, none⟩), .int .i64 (e : Int), .agg #[.int .i64 a0, .int .i64 a1], .agg #[.int .i64 b0, .int .i64 b1]] w fun x w' => x = .returned r ∧ Below w.heap.size w w' := by
  obtain ⟨dv, sv, K, M, D, S, h1, h2⟩ := h
  have hh := hid (fun y (hy : Below w.heap.size w y) => holds_ok e false (h1.more hy) he (fun q => by cases q) (fun _ => h2.off _ hi))
  have hk := hid (Lk.new w a0 a1 b0 b1)
  have hb : Hid (Below w.heap.size w ((w.alloc (.cells #[.int .i64 a0, .int .i64 a1] 60)).alloc (.cells #[.int .i64 b0, .int .i64 b1] 60))) := (balloc _ _).alloc (by simp) _
  obtain ⟨wb, hwb⟩ : ∃ wb, (w.alloc (.cells #[.int .i64 a0, .int .i64 a1] 60)).alloc (.cells #[.int .i64 b0, .int .i64 b1] 60) = wb := ⟨_, rfl⟩
  rw [hwb] at hk hb
  replace hwb := hid hwb
  replace hca := hid hca
  replace hcb := hid hcb
  clear h1 h2 he hi
  go_enter Tryz.func29, Tryz.ntmps29
  go_wp2_with fail
  rw [hwb.out]
  refine (hh.out _ hb.out).mono ?_
  rintro x w1 ⟨rfl, b1⟩
  replace hb := hid (hb.out.trans (b1.mono hb.out.size))
  replace hk := hid (hk.out.below b1)
  clear b1 hwb
  obtain ⟨q0, q1, _, _⟩ := blk2' hk.out.1
  obtain ⟨q2, q3, _, _⟩ := blk2' hk.out.2
  go_wp2_with fail
  clear q0 q1 q2 q3
  go_loopw [12, 13, 30] (fun _ _ s30 wr => ∃ j : Nat, j ≤ 2 ∧ s30 = .int .i64 (j : Int) ∧ Hid (Below w.heap.size w wr ∧ (1 ≤ j → ra = .nilIface) ∧ (2 ≤ j → rb = .nilIface))) (fun _ _ s30 _ => 2 - (intOf s30).toNat)
  case atStart => exact ⟨0, by omega, by go_num, hb.out, fun h => by omega, fun h => by omega⟩
  case round =>
    obtain ⟨j, hj, rfl, hst⟩ := hrel
    have hb3 := hst.out.1
    have hj3 : j = 0 ∨ j = 1 ∨ j = 2 := by omega
    rcases hj3 with rfl | rfl | rfl
    · have hi0 := (corner_at a0 a1 b0 b1 wr).1
      have hb4 := hid (hb3.alloc hb3.size (.cells #[.int .i64 a0, .int .i64 a1] 60))
      clear hb3
      go_wp2_with fail
      refine (hca.out _ hb4.out).mono ?_
      rintro x w5 ⟨rfl, b5⟩
      have hb5 := hid (hb4.out.trans (b5.mono hb4.out.size))
      clear b5
      rcases hr with ⟨z, rfl, rfl⟩ | ⟨rfl, hr2⟩
      · go_wp2_with fail
        go_ret
        exact ⟨rfl, hb5.out⟩
      · go_wp2_with fail
        go_roundw
        case rel => exact ⟨1, by omega, by go_num, hb5.out, by first | exact fun _ => rfl | simp, fun h => by omega⟩
        case measure => simp [intOf]
    · have hi0 := (corner_at a0 a1 b0 b1 wr).2
      have hb4 := hid (hb3.alloc hb3.size (.cells #[.int .i64 b0, .int .i64 b1] 60))
      have hra := hst.out.2.1 (by omega)
      clear hb3
      obtain ⟨z, rfl, rfl⟩ : ∃ z, rb = .iface 88 (.int .i64 z) ∧ r = rb := by
        rcases hr with ⟨z, h1, _⟩ | ⟨_, h2⟩
        · rw [hra] at h1; cases h1
        · exact h2
      clear hr hra
      go_wp2_with fail
      refine (hcb.out _ hb4.out).mono ?_
      rintro x w5 ⟨rfl, b5⟩
      have hb5 := hid (hb4.out.trans (b5.mono hb4.out.size))
      clear b5
      go_wp2_with fail
      go_ret
      exact ⟨rfl, hb5.out⟩
    · exfalso
      rcases hr with ⟨z, h1, _⟩ | ⟨_, z, h2, _⟩
      · rw [hst.out.2.1 (by omega)] at h1; cases h1
      · rw [hst.out.2.2 (by omega)] at h2; cases h2

theorem Kp.setNew {lo : Nat} {w w' : World} (h : Kp lo w w') {p : Addr} (hp : w.heap.size ≤ p.block) (u : Value) : Kp lo w (w'.setCell p u) :=
  ⟨h.os, h.tape, h.output, by have := h.size; simpa [World.setCell] using this, fun k hk ho => (Below.heap_setCell _ _ _ _ (fun e => by omega)).trans (h.block k hk ho)⟩

theorem TA.setc (h : TA w lo tb V E R) {g k : Nat} (hg : Ty w g 60) (u : Value) : TA (w.setCell ⟨g, k, none⟩ u) lo tb V E R := by
  obtain ⟨dv, sv, K, M, D, S, h1, h2⟩ := h
  refine ⟨dv, sv, K, M, D, S, h1.of (Below.heap_setCell _ _ _ _ (fun e => ?_)) (fun k hk => Below.heap_setCell _ _ _ _ (fun e => ?_)) (fun k hk => Below.heap_setCell _ _ _ _ (fun e => ?_)), h2⟩
  · have e' : tb = g := e
    subst e'
    exact absurd (h1.ty.uniq hg) (by decide)
  · have e' : k = g := e
    subst e'
    exact absurd ((h1.dty hk).uniq hg) (by decide)
  · have e' : k = g := e
    subst e'
    exact absurd ((h1.sty hk).uniq hg) (by decide)

/-- The second dart, where the corner is one of no dart, stands behind the first one if that stands there. -/
theorem put_second {R : Nat → List Nat} {u v e : Nat} {a : Option Nat} (hv : R v = []) (ha : ∀ y, a = some y → y ∈ R u) : (v = u → putR (putR R u a (2 * e)) v (some (2 * e)) (2 * e + 1) = putR (putR R u a (2 * e)) v none (2 * e + 1)) := by
  intro e1
  subst e1
  have ha0 : a = none := by
    cases a with
    | none => rfl
    | some y => have := ha y rfl; rw [hv] at this; simp at this
  subst ha0
  have e2 : putR R v none (2 * e) v = [2 * e] := by unfold putR; rw [upd_same, hv]; rfl
  unfold putR at e2 ⊢
  rw [e2]
  have e3 : pt [2 * e] (some (2 * e)) (2 * e + 1) = pt [2 * e] none (2 * e + 1) := by
    show ins [2 * e] (2 * e) (2 * e + 1) = [2 * e] ++ [2 * e + 1]
    have := ins_split (A := []) (B := []) (b := 2 * e) (d := 2 * e + 1) (by simp)
    simpa using this
  rw [e3]

set_option maxRecDepth 100000 in
set_option maxHeartbeats 4000000 in
theorem lay_ok (h : TA w lo tb V E R) (e u v : Nat) (a1 b1 : Int) (he : e < E) (hi : ¬ In V R (2 * e)) (hj : ¬ In V R (2 * e + 1)) (hca : Co V R (u : Int) a1) (hcb : Co V R (v : Int) b1) :
    Calls Tryz.prog 29 #[.pointer (some ⟨tb, 0, none⟩), .int .i64 (e : Int), .agg #[.int .i64 (u : Int), .int .i64 a1], .agg #[.int .i64 (v : Int), .int .i64 b1]] w fun x w' => x = .returned .nilIface ∧ TA w' lo tb V E (layR R e u v (co a1) (co b1)) ∧ Kp lo w w' := by
  have hEb := h.hE
  have hVb := h.hV
  have ht := h.tn
  obtain ⟨hu, hv⟩ : u < V ∧ v < V := by
    obtain ⟨u', e1, h1, _⟩ := hca
    obtain ⟨v', e2, h2, _⟩ := hcb
    omega
  have hs := hid (fun y => sides_ok e y (by omega))
  have hc1 := hid (fun y (hy : Below w.heap.size w y) => check_in (h.more hy) u a1 .nilIface hu (.inl ⟨rfl, hca⟩))
  have hc2 := hid (fun y (hy : Below w.heap.size w y) => check_in (h.more hy) v b1 .nilIface hv (.inl ⟨rfl, hcb⟩))
  have hp1 := hid (fun y (hy : TA y lo tb V E R) => hy.putc (2 * e) u a1 hca (by omega) hi)
  have hma := hca.mem
  have hmb := hcb.mem
  -- the corner of the second dart, behind the first one
  obtain ⟨b2, hb2⟩ : ∃ b2 : Int, (b1 = -1 ∧ v = u ∧ b2 = ((2 * e : Nat) : Int)) ∨ (b1 = -1 ∧ v ≠ u ∧ b2 = b1) ∨ (b1 ≠ -1 ∧ b2 = b1) := by
    by_cases h1 : b1 = -1
    · by_cases h2 : v = u
      · exact ⟨_, .inl ⟨h1, h2, rfl⟩⟩
      · exact ⟨_, .inr (.inl ⟨h1, h2, rfl⟩)⟩
    · exact ⟨_, .inr (.inr ⟨h1, rfl⟩)⟩
  have hin1 : ∀ x, x ∈ putR R u (co a1) (2 * e) v → True := fun _ _ => trivial
  have hcb2 : Co V (putR R u (co a1) (2 * e)) (v : Int) b2 ∧ putR (putR R u (co a1) (2 * e)) v (co b2) (2 * e + 1) = layR R e u v (co a1) (co b1) := by
    obtain ⟨v', e2, _, hcase⟩ := hcb
    obtain rfl : v = v' := by omega
    rcases hb2 with ⟨rfl, rfl, rfl⟩ | ⟨rfl, hne, rfl⟩ | ⟨hne, rfl⟩
    · have hv0 : R v = [] := by
        rcases hcase with h1 | ⟨d, h1, _⟩
        · exact h1.2
        · omega
      refine ⟨⟨v, rfl, hv, .inr ⟨2 * e, rfl, ?_⟩⟩, ?_⟩
      · unfold putR; rw [upd_same, pt_mem hma]; exact .inl rfl
      · rw [co_some, co_none]
        exact put_second hv0 hma rfl
    · have hv0 : R v = [] := by
        rcases hcase with h1 | ⟨d, h1, _⟩
        · exact h1.2
        · omega
      refine ⟨⟨v, rfl, hv, .inl ⟨rfl, ?_⟩⟩, rfl⟩
      unfold putR; rw [upd_ne hne]; exact hv0
    · rcases hcase with h1 | ⟨d, h1, h2⟩
      · exact absurd h1.1 hne
      · refine ⟨⟨v, rfl, hv, .inr ⟨d, h1, ?_⟩⟩, rfl⟩
        unfold putR
        by_cases e3 : v = u
        · subst e3; rw [upd_same, pt_mem hma]; exact .inr h2
        · rw [upd_ne e3]; exact h2
  have hj1 : ¬ In V (putR R u (co a1) (2 * e)) (2 * e + 1) := fun hm => by
    rcases (In.put hu hma).1 hm with q | q
    · omega
    · exact hj q
  have hp2 := hid (fun y (hy : TA y lo tb V E (putR R u (co a1) (2 * e))) => hy.putc (2 * e + 1) v b2 hcb2.1 (by omega) hj1)
  rw [hcb2.2] at hp2
  have h0 := hid h
  obtain ⟨dv, sv, K, M, D, S, h1, h2⟩ := h
  have hh := hid (fun y (hy : Below w.heap.size w y) => holds_ok e false (h1.more hy) he (fun q => by cases q) (fun _ => h2.off _ hi))
  have hk := hid (Lk.new w (u : Int) a1 (v : Int) b1)
  have hb : Hid (Below w.heap.size w ((w.alloc (.cells #[.int .i64 (u : Int), .int .i64 a1] 60)).alloc (.cells #[.int .i64 (v : Int), .int .i64 b1] 60))) := (balloc _ _).alloc (by simp) _
  obtain ⟨wb, hwb⟩ : ∃ wb, (w.alloc (.cells #[.int .i64 (u : Int), .int .i64 a1] 60)).alloc (.cells #[.int .i64 (v : Int), .int .i64 b1] 60) = wb := ⟨_, rfl⟩
  rw [hwb] at hk hb
  replace hwb := hid hwb
  replace hb2 := hid hb2
  clear h1 h2 hi hj hj1 hcb2 hca hcb hma hmb ht hin1
  go_enter Tryz.func29, Tryz.ntmps29
  go_wp2_with fail
  rw [hwb.out]
  refine (hh.out _ hb.out).mono ?_
  rintro x w1 ⟨rfl, b9⟩
  replace hb := hid (hb.out.trans (b9.mono hb.out.size))
  replace hk := hid (hk.out.below b9)
  clear b9 hwb
  obtain ⟨q0, q1, _, _⟩ := blk2' hk.out.1
  obtain ⟨q2, q3, _, _⟩ := blk2' hk.out.2
  go_wp2_with fail
  clear q0 q1 q2 q3
  go_loopw [12, 13, 30] (fun _ _ s30 wr => ∃ j : Nat, j ≤ 2 ∧ s30 = .int .i64 (j : Int) ∧ Hid (Below w1.heap.size w1 wr)) (fun _ _ s30 _ => 2 - (intOf s30).toNat)
  case atStart => exact ⟨0, by omega, by go_num, Below.refl _ _⟩
  case round =>
    obtain ⟨j, hj, rfl, hst⟩ := hrel
    have hb3 := hst.out
    have hj3 : j = 0 ∨ j = 1 ∨ j = 2 := by omega
    rcases hj3 with rfl | rfl | rfl
    · have hi0 := (corner_at (u : Int) a1 (v : Int) b1 wr).1
      have hb4 := hid (hb3.alloc hb3.size (.cells #[.int .i64 (u : Int), .int .i64 a1] 60))
      clear hb3
      go_wp2_with fail
      refine (hc1.out _ (hb.out.trans (hb4.out.mono hb.out.size))).mono ?_
      rintro x w5 ⟨rfl, b5⟩
      have hb5 := hid (hb4.out.trans (b5.mono hb4.out.size))
      clear b5
      go_wp2_with fail
      go_roundw
      case rel => exact ⟨1, by omega, by go_num, hb5.out⟩
      case measure => simp [intOf]
    · have hi0 := (corner_at (u : Int) a1 (v : Int) b1 wr).2
      have hb4 := hid (hb3.alloc hb3.size (.cells #[.int .i64 (v : Int), .int .i64 b1] 60))
      clear hb3
      go_wp2_with fail
      refine (hc2.out _ (hb.out.trans (hb4.out.mono hb.out.size))).mono ?_
      rintro x w5 ⟨rfl, b5⟩
      have hb5 := hid (hb4.out.trans (b5.mono hb4.out.size))
      clear b5
      go_wp2_with fail
      go_roundw
      case rel => exact ⟨2, by omega, by go_num, hb5.out⟩
      case measure => simp [intOf]
    · have hkr := hid (hk.out.below hb3)
      have hbr := hid (hb.out.trans (hb3.mono hb.out.size))
      clear hst hb3 hk hb hc1 hc2 hh
      go_wp2_with fail
      refine (hs.out _).mono ?_
      rintro x w6 ⟨rfl, rfl⟩
      obtain ⟨q0, q1, _, _⟩ := blk2' hkr.out.1
      go_wp2_with fail
      refine (hp1.out _ (h0.out.more hbr.out)).mono ?_
      rintro x w7 ⟨rfl, a7, k7⟩
      have hk7 := hid (hkr.out.kp k7)
      have hK7 : Hid (Kp lo w w7) := (Kp.ofBelow hbr.out lo).trans k7
      replace a7 := hid a7
      clear k7 hkr hbr q0 q1
      obtain ⟨q0, q1, _, _⟩ := blk2' hk7.out.1
      obtain ⟨q2, q3, f2, f3⟩ := blk2' hk7.out.2
      rcases hb2.out with ⟨rfl, rfl, rfl⟩ | ⟨rfl, hne, rfl⟩ | ⟨hne, rfl⟩
      · have s1 := hid (a7.out.setc (k := 1) ⟨_, _, hk7.out.2⟩ (.int .i64 (2 * (e : Int))))
        have s2 := hid (hK7.out.setNew (p := ⟨w.heap.size + 1, 1, none⟩) (Nat.le_succ _) (.int .i64 (2 * (e : Int))))
        have s3 := hid (set_block (k := 1) hk7.out.2 (.int .i64 (2 * (e : Int))))
        go_upto_region 17 with fail
        generalize w7.setCell ⟨w.heap.size + 1, 1, none⟩ (.int .i64 (2 * (e : Int))) = w8 at s1 s2 s3 ⊢
        clear q0 q1 q2 q3 f2 f3
        obtain ⟨q2, q3, _, _⟩ := blk2' s3.out
        go_wp2_with fail
        refine (hp2.out _ s1.out).mono ?_
        rintro x w9 ⟨rfl, a9, k9⟩
        replace a9 := hid a9
        replace k9 := hid k9
        go_wp2_with fail
        go_ret
        exact ⟨rfl, a9.out, s2.out.trans k9.out⟩
      · have t1 : ((v : Int) == (u : Int)) = false := beq_false_of_ne (by omega)
        have t1' : (v == u) = false := beq_false_of_ne hne
        go_wp2_with fail
        refine (hp2.out _ a7.out).mono ?_
        rintro x w9 ⟨rfl, a9, k9⟩
        replace a9 := hid a9
        replace k9 := hid k9
        go_wp2_with fail
        go_ret
        exact ⟨rfl, a9.out, hK7.out.trans k9.out⟩
      · have t1 : (b2 == -1) = false := beq_false_of_ne hne
        clear hne
        go_wp2_with fail
        refine (hp2.out _ a7.out).mono ?_
        rintro x w9 ⟨rfl, a9, k9⟩
        replace a9 := hid a9
        replace k9 := hid k9
        go_wp2_with fail
        go_ret
        exact ⟨rfl, a9.out, hK7.out.trans k9.out⟩
end

end Go.Proofs.YtghpjljnbdjmaaaGreatDoor
