/- What the Turns' reading calls answer. -/
import Derived.Test.YtghpjljnbdjmaaaGreatDoorBfind
import Derived.Test.YtghpjljnbdjmaaaGreatDoorTakeW10
import Derived.Deep.RegionHeld3
namespace Go.Proofs.YtghpjljnbdjmaaaGreatDoor
open Go.RowKit
set_option linter.unusedVariables false

/-- The Turns at tb, made since lo: what stands round each vertex. -/
def TA (w : World) (lo tb V E : Nat) (R : Nat → List Nat) : Prop := ∃ dv sv K M D S, Tm w lo tb dv sv V E K M D S ∧ Tt V E D S R

section
variable {w w' : World} {lo tb V E : Nat} {R : Nat → List Nat}

theorem TA.more (h : TA w lo tb V E R) (hb : Below w.heap.size w w') : TA w' lo tb V E R := by
  obtain ⟨dv, sv, K, M, D, S, h1, h2⟩ := h
  exact ⟨dv, sv, K, M, D, S, h1.more hb, h2⟩
theorem TA.tn (h : TA w lo tb V E R) : Tn V E R := by
  obtain ⟨dv, sv, K, M, D, S, h1, h2⟩ := h
  exact h2.tn
theorem TA.hV (h : TA w lo tb V E R) : V ≤ 1048576 := by
  obtain ⟨dv, sv, K, M, D, S, h1, h2⟩ := h
  exact h1.hV
theorem TA.hE (h : TA w lo tb V E R) : E ≤ 1048576 := by
  obtain ⟨dv, sv, K, M, D, S, h1, h2⟩ := h
  exact h1.hE
theorem TA.hlo (h : TA w lo tb V E R) : lo ≤ w.heap.size := by
  obtain ⟨dv, sv, K, M, D, S, h1, h2⟩ := h
  have := h1.lt
  have := h1.low
  omega

/-- A higher bound, or a lower one. -/
theorem Tm.down {lo' : Nat} {dv sv : Value} {K M : Nat} {D : Nat → Dr} {S : Nat → Sd} (h : Tm w lo tb dv sv V E K M D S) (hl : lo' ≤ lo) : Tm w lo' tb dv sv V E K M D S := by
  refine ⟨h.self, ⟨h.da.1, ?_⟩, ⟨h.st.1, ?_⟩, h.rd, h.rs, Nat.le_trans hl h.low, h.hK, h.hM, h.hV, h.hE⟩
  · rcases h.da.2 with q | ⟨g, cap, cur, e, hb, r⟩
    · exact .inl q
    · exact .inr ⟨g, cap, cur, e, Nat.le_trans hl hb, r⟩
  · rcases h.st.2 with q | ⟨g, cap, cur, e, hb, r⟩
    · exact .inl q
    · exact .inr ⟨g, cap, cur, e, Nat.le_trans hl hb, r⟩
theorem TA.down {lo' : Nat} (h : TA w lo tb V E R) (hl : lo' ≤ lo) : TA w lo' tb V E R := by
  obtain ⟨dv, sv, K, M, D, S, h1, h2⟩ := h
  exact ⟨dv, sv, K, M, D, S, h1.down hl, h2⟩

set_option maxRecDepth 100000 in
set_option maxHeartbeats 1000000 in
theorem has_range (h : TA w lo tb V E R) (e : Int) (he : e < 0 ∨ (E : Int) ≤ e) : Calls Tryz.prog 23 #[.pointer (some ⟨tb, 0, none⟩), .int .i64 e] w fun x w' => x = .returned (.bool false) ∧ w = w' := by
  obtain ⟨dv, sv, K, M, D, S, h1, h2⟩ := h
  have hh := hid (holds_range e h1 he)
  clear h1 h2 he
  go_enter Tryz.func23, Tryz.ntmps23
  go_wp2_with fail
  refine hh.out.mono ?_
  rintro x w1 ⟨rfl, rfl⟩
  go_wp2_with fail
  go_ret
  exact ⟨rfl, rfl⟩

set_option maxRecDepth 100000 in
set_option maxHeartbeats 1000000 in
theorem has_ok (h : TA w lo tb V E R) (e : Nat) (b : Bool) (he : e < E) (hb : b = true ↔ In V R (2 * e)) : Calls Tryz.prog 23 #[.pointer (some ⟨tb, 0, none⟩), .int .i64 (e : Int)] w fun x w' => x = .returned (.bool b) ∧ Below w.heap.size w w' := by
  obtain ⟨dv, sv, K, M, D, S, h1, h2⟩ := h
  have hh := hid (holds_ok e b h1 he (fun q => (h2.laid _).2 (hb.1 q)) (fun q => h2.off _ (fun hi => by have := hb.2 hi; rw [q] at this; cases this)))
  clear h1 h2 he hb
  go_enter Tryz.func23, Tryz.ntmps23
  go_wp2_with fail
  refine hh.out.mono ?_
  rintro x w1 ⟨rfl, b1⟩
  replace b1 := hid b1
  go_wp2_with fail
  go_ret
  exact ⟨rfl, b1.out⟩

set_option maxRecDepth 100000 in
set_option maxHeartbeats 1000000 in
theorem has_nil (e : Int) (w : World) : Calls Tryz.prog 23 #[.pointer none, .int .i64 e] w fun x w' => x = .returned (.bool false) ∧ w = w' := by
  have hh := hid (holds_nil e w)
  go_enter Tryz.func23, Tryz.ntmps23
  go_wp2_with fail
  refine hh.out.mono ?_
  rintro x w1 ⟨rfl, rfl⟩
  go_wp2_with fail
  go_ret
  exact ⟨rfl, rfl⟩

set_option maxRecDepth 100000 in
set_option maxHeartbeats 1000000 in
theorem next_nil (d : Int) (w : World) : Calls Tryz.prog 93 #[.pointer none, .int .i64 d] w fun x w' => x = .returned (.tuple #[.int .i64 0, .iface 88 (.int .i64 1)]) ∧ Below w.heap.size w w' := by
  have hh := hid (find_nil d w)
  go_enter Tryz.func93, Tryz.ntmps93
  go_wp2_with fail
  refine hh.out.mono ?_
  rintro x w1 ⟨rfl, b1⟩
  have hb := hid (b1.alloc b1.size (.cells #[.int .i32 0, .int .i32 0, .int .i32 0] 106))
  clear b1
  go_wp2_with fail
  go_ret2
  exact ⟨rfl, hb.out⟩

/-- What 'find' answers, whatever it is: the numbers, and the error. -/
theorem find_any (h : TA w lo tb V E R) (d : Int) : ∃ (n p : Nat) (o : Int) (r : Value), (∀ y, Below w.heap.size w y → Calls Tryz.prog 58 #[.pointer (some ⟨tb, 0, none⟩), .int .i64 d] y fun e w' => e = .returned (.tuple #[.agg #[.int .i32 (n : Int), .int .i32 (p : Int), .int .i32 o], r]) ∧ Below y.heap.size y w') ∧
    ((r = .iface 88 (.int .i64 12) ∧ n = 0 ∧ p = 0 ∧ o = 0 ∧ (d < 0 ∨ 2 * (E : Int) ≤ d)) ∨ (r = .iface 88 (.int .i64 13) ∧ n = 0 ∧ p = 0 ∧ o = 0 ∧ ∃ k : Nat, d = (k : Int) ∧ k < 2 * E ∧ ¬ In V R k) ∨ (r = .nilIface ∧ ∃ k u : Nat, d = (k : Int) ∧ u < V ∧ k ∈ R u ∧ n = nx (R u) k ∧ p = pv (R u) k ∧ o = (u : Int))) := by
  obtain ⟨dv, sv, K, M, D, S, h1, h2⟩ := h
  by_cases hd : d < 0 ∨ 2 * (E : Int) ≤ d
  · exact ⟨0, 0, 0, .iface 88 (.int .i64 12), fun y hy => find_range d (h1.more hy) hd, .inl ⟨rfl, rfl, rfl, rfl, hd⟩⟩
  · obtain ⟨k, rfl⟩ : ∃ k : Nat, d = (k : Int) := ⟨d.toNat, by omega⟩
    have hk : k < 2 * E := by omega
    by_cases hi : In V R k
    · obtain ⟨u, hu, hm⟩ := hi
      have e := h2.on u k hu hm
      refine ⟨nx (R u) k, pv (R u) k, (u : Int), .nilIface, fun y hy => ?_, .inr (.inr ⟨rfl, k, u, rfl, hu, hm, rfl, rfl, rfl⟩)⟩
      have := find_ok k (h1.more hy) hk (by rw [e]; simp only []; omega)
      rw [e] at this
      exact this
    · exact ⟨0, 0, 0, .iface 88 (.int .i64 13), fun y hy => find_stale k (h1.more hy) hk (h2.off k hi), .inr (.inl ⟨rfl, rfl, rfl, rfl, k, rfl, hk, hi⟩)⟩

theorem low32 (h : TA w lo tb V E R) {u k : Nat} (hu : u < V) (hm : k ∈ R u) : k < 2097152 := by
  have := h.tn.low u k hu hm
  have := h.hE
  omega

/-- Next, Prev, Origin: what they answer. -/
def Nxt (V E : Nat) (R : Nat → List Nat) (d : Int) (n p o : Int) (r : Value) : Prop :=
  (r = .iface 88 (.int .i64 12) ∧ n = 0 ∧ p = 0 ∧ o = 0 ∧ (d < 0 ∨ 2 * (E : Int) ≤ d)) ∨ (r = .iface 88 (.int .i64 13) ∧ n = 0 ∧ p = 0 ∧ o = 0 ∧ ∃ k : Nat, d = (k : Int) ∧ k < 2 * E ∧ ¬ In V R k) ∨ (r = .nilIface ∧ ∃ k u : Nat, d = (k : Int) ∧ u < V ∧ k ∈ R u ∧ n = (nx (R u) k : Int) ∧ p = (pv (R u) k : Int) ∧ o = (u : Int))

theorem Nxt.of {d : Int} {n p : Nat} {o : Int} {r : Value} (h : (r = .iface 88 (.int .i64 12) ∧ n = 0 ∧ p = 0 ∧ o = 0 ∧ (d < 0 ∨ 2 * (E : Int) ≤ d)) ∨ (r = .iface 88 (.int .i64 13) ∧ n = 0 ∧ p = 0 ∧ o = 0 ∧ ∃ k : Nat, d = (k : Int) ∧ k < 2 * E ∧ ¬ In V R k) ∨ (r = .nilIface ∧ ∃ k u : Nat, d = (k : Int) ∧ u < V ∧ k ∈ R u ∧ n = nx (R u) k ∧ p = pv (R u) k ∧ o = (u : Int))) : Nxt V E R d (n : Int) (p : Int) o r := by
  rcases h with ⟨h1, h2, h3, h4, h5⟩ | ⟨h1, h2, h3, h4, h5⟩ | ⟨h1, k, u, h2, h3, h4, h5, h6, h7⟩
  · exact .inl ⟨h1, by omega, by omega, h4, h5⟩
  · exact .inr (.inl ⟨h1, by omega, by omega, h4, h5⟩)
  · exact .inr (.inr ⟨h1, k, u, h2, h3, h4, by rw [h5], by rw [h6], h7⟩)

set_option maxRecDepth 100000 in
set_option maxHeartbeats 1000000 in
theorem three_next {tb : Nat} {d : Int} (n p : Nat) (o : Int) (r : Value) (y : World) (hf : Calls Tryz.prog 58 #[.pointer (some ⟨tb, 0, none⟩), .int .i64 d] y fun e w' => e = .returned (.tuple #[.agg #[.int .i32 (n : Int), .int .i32 (p : Int), .int .i32 o], r]) ∧ Below y.heap.size y w') (hw : (0 : Int) ≤ (n : Int) ∧ (n : Int) ≤ 2097152 ∧ (0 : Int) ≤ (p : Int) ∧ (p : Int) ≤ 2097152 ∧ 0 ≤ o ∧ o ≤ 1048576) :
    Calls Tryz.prog 93 #[.pointer (some ⟨tb, 0, none⟩), .int .i64 d] y fun e w' => e = .returned (.tuple #[.int .i64 (n : Int), r]) ∧ Below y.heap.size y w' := by
  obtain ⟨h1, h2, h3, h4, h5, h6⟩ := hw
  replace hf := hid hf
  go_enter Tryz.func93, Tryz.ntmps93
  go_wp2_with fail
  refine hf.out.mono ?_
  rintro x w1 ⟨rfl, b1⟩
  have hb := hid (b1.alloc b1.size (.cells #[.int .i32 (n : Int), .int .i32 (p : Int), .int .i32 o] 106))
  clear b1
  go_wp2_with fail
  go_ret2
  exact ⟨rfl, hb.out⟩

set_option maxRecDepth 100000 in
set_option maxHeartbeats 1000000 in
theorem three_prev {tb : Nat} {d : Int} (n p : Nat) (o : Int) (r : Value) (y : World) (hf : Calls Tryz.prog 58 #[.pointer (some ⟨tb, 0, none⟩), .int .i64 d] y fun e w' => e = .returned (.tuple #[.agg #[.int .i32 (n : Int), .int .i32 (p : Int), .int .i32 o], r]) ∧ Below y.heap.size y w') (hw : (0 : Int) ≤ (n : Int) ∧ (n : Int) ≤ 2097152 ∧ (0 : Int) ≤ (p : Int) ∧ (p : Int) ≤ 2097152 ∧ 0 ≤ o ∧ o ≤ 1048576) :
    Calls Tryz.prog 26 #[.pointer (some ⟨tb, 0, none⟩), .int .i64 d] y fun e w' => e = .returned (.tuple #[.int .i64 (p : Int), r]) ∧ Below y.heap.size y w' := by
  obtain ⟨h1, h2, h3, h4, h5, h6⟩ := hw
  replace hf := hid hf
  go_enter Tryz.func26, Tryz.ntmps26
  go_wp2_with fail
  refine hf.out.mono ?_
  rintro x w1 ⟨rfl, b1⟩
  have hb := hid (b1.alloc b1.size (.cells #[.int .i32 (n : Int), .int .i32 (p : Int), .int .i32 o] 106))
  clear b1
  go_wp2_with fail
  go_ret2
  exact ⟨rfl, hb.out⟩

set_option maxRecDepth 100000 in
set_option maxHeartbeats 1000000 in
theorem three_origin {tb : Nat} {d : Int} (n p : Nat) (o : Int) (r : Value) (y : World) (hf : Calls Tryz.prog 58 #[.pointer (some ⟨tb, 0, none⟩), .int .i64 d] y fun e w' => e = .returned (.tuple #[.agg #[.int .i32 (n : Int), .int .i32 (p : Int), .int .i32 o], r]) ∧ Below y.heap.size y w') (hw : (0 : Int) ≤ (n : Int) ∧ (n : Int) ≤ 2097152 ∧ (0 : Int) ≤ (p : Int) ∧ (p : Int) ≤ 2097152 ∧ 0 ≤ o ∧ o ≤ 1048576) :
    Calls Tryz.prog 25 #[.pointer (some ⟨tb, 0, none⟩), .int .i64 d] y fun e w' => e = .returned (.tuple #[.int .i64 o, r]) ∧ Below y.heap.size y w' := by
  obtain ⟨h1, h2, h3, h4, h5, h6⟩ := hw
  replace hf := hid hf
  go_enter Tryz.func25, Tryz.ntmps25
  go_wp2_with fail
  refine hf.out.mono ?_
  rintro x w1 ⟨rfl, b1⟩
  have hb := hid (b1.alloc b1.size (.cells #[.int .i32 (n : Int), .int .i32 (p : Int), .int .i32 o] 106))
  clear b1
  go_wp2_with fail
  go_ret2
  exact ⟨rfl, hb.out⟩

/-- The three calls of one dart have one outcome. -/
theorem three_ok (h : TA w lo tb V E R) (d : Int) : ∃ (n p o : Int) (r : Value), Nxt V E R d n p o r ∧
    (∀ y, Below w.heap.size w y → Calls Tryz.prog 93 #[.pointer (some ⟨tb, 0, none⟩), .int .i64 d] y fun e w' => e = .returned (.tuple #[.int .i64 n, r]) ∧ Below y.heap.size y w') ∧
    (∀ y, Below w.heap.size w y → Calls Tryz.prog 26 #[.pointer (some ⟨tb, 0, none⟩), .int .i64 d] y fun e w' => e = .returned (.tuple #[.int .i64 p, r]) ∧ Below y.heap.size y w') ∧
    (∀ y, Below w.heap.size w y → Calls Tryz.prog 25 #[.pointer (some ⟨tb, 0, none⟩), .int .i64 d] y fun e w' => e = .returned (.tuple #[.int .i64 o, r]) ∧ Below y.heap.size y w') := by
  obtain ⟨n, p, o, r, hf, hr⟩ := find_any h d
  have hw : (0 : Int) ≤ (n : Int) ∧ (n : Int) ≤ 2097152 ∧ (0 : Int) ≤ (p : Int) ∧ (p : Int) ≤ 2097152 ∧ 0 ≤ o ∧ o ≤ 1048576 := by
    rcases hr with ⟨_, h2, h3, h4, h5⟩ | ⟨_, h2, h3, h4, h5⟩ | ⟨_, k, u, _, h3, h4, h5, h6, h7⟩
    · omega
    · omega
    · have q1 := low32 h h3 (nx_mem h4)
      have q2 := low32 h h3 (pv_mem (h.tn.nd u h3) h4).1
      have := h.hV
      omega
  refine ⟨(n : Int), (p : Int), o, r, Nxt.of hr, fun y hy => ?_, fun y hy => ?_, fun y hy => ?_⟩
  · exact three_next n p o r y (hf y hy) hw
  · exact three_prev n p o r y (hf y hy) hw
  · exact three_origin n p o r y (hf y hy) hw

theorem two_ok (h : TA w lo tb V E R) (d : Int) : ∃ (n p o : Int) (r : Value), Nxt V E R d n p o r ∧
    (∀ y, Below w.heap.size w y → Calls Tryz.prog 93 #[.pointer (some ⟨tb, 0, none⟩), .int .i64 d] y fun e w' => e = .returned (.tuple #[.int .i64 n, r]) ∧ Below y.heap.size y w') ∧
    (∀ y, Below w.heap.size w y → Calls Tryz.prog 25 #[.pointer (some ⟨tb, 0, none⟩), .int .i64 d] y fun e w' => e = .returned (.tuple #[.int .i64 o, r]) ∧ Below y.heap.size y w') := by
  obtain ⟨n, p, o, r, h1, h2, _, h4⟩ := three_ok h d
  exact ⟨n, p, o, r, h1, h2, h4⟩
end

end Go.Proofs.YtghpjljnbdjmaaaGreatDoor
