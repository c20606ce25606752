/- 'do', walked: an act is done to both. -/
import Derived.Test.YtieglcjfphmglaaDoorLibL10
import Derived.Test.YtieglcjfphmglaaDoorErrAs
import Derived.Test.YtieglcjfphmglaaDoorOpen10
namespace Go.Proofs.YtieglcjfphmglaaDoor
open Go.RowKit
set_option linter.unusedVariables false

/-- The two, side by side. -/
structure Bo (w : World) (lo tb : Nat) (xv : Value) (V E F : Nat) (R : Nat → List Nat) : Prop where
  ta : TA w lo tb V E R
  rt : RT w xv F V R
  tn : Tn V F R
  tw : Tw V F R
  le : F ≤ E

/-- An act's cells as a value. -/
abbrev acv (q : Ac) : Value := .agg #[.int .i64 q.k, .int .i64 q.e, .int .i64 q.a0, .int .i64 q.a1, .int .i64 q.b0, .int .i64 q.b1]

theorem Bo.more {w w' : World} {lo tb : Nat} {xv : Value} {V E F : Nat} {R : Nat → List Nat} (h : Bo w lo tb xv V E F R) (hb : Below w.heap.size w w') : Bo w' lo tb xv V E F R := ⟨h.ta.more hb, h.rt.below hb, h.tn, h.tw, h.le⟩

/-- What both Lifts do: the same number, the same lists. -/
theorem both_lift {w : World} {lo tb V E F : Nat} {xv : Value} {R : Nat → List Nat} (h : Bo w lo tb xv V E F R) (e : Int) (hef : (e < 0 ∨ (E : Int) ≤ e) ∨ e < (F : Int)) (hE : F ≤ 100) (hV : V ≤ 1000) : ∃ (R' : Nat → List Nat) (c : Int) (r : Value), (Tn V F R' ∧ Tw V F R') ∧ ((r = .nilIface ∧ c = 0) ∨ (r = .iface 74 (.int .i64 c) ∧ c ≠ 0)) ∧
    (∀ y, Below w.heap.size w y → Calls Tryd.prog 49 #[xv, .int .i64 e] y fun x w' => ∃ xv', x = .returned (.tuple #[xv', .int .i64 c]) ∧ RT w' xv' F V R' ∧ Below y.heap.size y w') ∧
    (∀ y, TA y lo tb V E R → Calls Tryd.prog 40 #[.pointer (some ⟨tb, 0, none⟩), .int .i64 e] y fun x w' => x = .returned r ∧ TA w' lo tb V E R' ∧ Kp lo y w') := by
  have ht := h.tn
  by_cases he : e < 0 ∨ (E : Int) ≤ e
  · refine ⟨R, 12, .iface 74 (.int .i64 12), ⟨h.tn, h.tw⟩, .inr ⟨rfl, by decide⟩, fun y hy => ?_, fun y hy => ?_⟩
    · exact (rlift_range xv F V e R y (h.rt.below hy) (by have := h.le; omega)).mono fun x w' ⟨e1, b⟩ => ⟨xv, e1, (h.rt.below hy).below b, b⟩
    · exact (lift_range hy e he).mono fun x w' ⟨e1, b⟩ => ⟨e1, b ▸ hy, b ▸ Kp.refl _ _⟩
  · obtain ⟨k, rfl⟩ : ∃ k : Nat, e = (k : Int) := ⟨e.toNat, by omega⟩
    have hk : k < F := by omega
    have hkE : k < E := by have := h.le; omega
    by_cases hi : In V R (2 * k)
    · have hj := (h.tw k hk).1 hi
      have hl : ∀ u, u < V → (R u).length ≤ 1000 := fun u hu => by have := ht.len hu; omega
      refine ⟨liftR R k, 0, .nilIface, ⟨(ht.lift h.tw).1, (ht.lift h.tw).2.1⟩, .inl ⟨rfl, rfl⟩, fun y hy => ?_, fun y hy => ?_⟩
      · exact rlift_ok xv F V k R y (h.rt.below hy) ht hk hi hj (by omega) hV hl
      · exact lift_ok hy k hkE hi hj
    · refine ⟨R, 13, .iface 74 (.int .i64 13), ⟨h.tn, h.tw⟩, .inr ⟨rfl, by decide⟩, fun y hy => ?_, fun y hy => ?_⟩
      · exact (rlift_stale xv F V k R y (h.rt.below hy) hk hE hV ht hi).mono fun x w' ⟨e1, b⟩ => ⟨xv, e1, (h.rt.below hy).below b, b⟩
      · exact (lift_stale hy k hkE hi).mono fun x w' ⟨e1, b⟩ => ⟨e1, hy.more b, Kp.ofBelow b _⟩

/-- What both Checks say of a corner. -/
theorem both_check {w : World} {lo tb V E F : Nat} {xv : Value} {R : Nat → List Nat} (h : Bo w lo tb xv V E F R) (a b : Int) (hE : F ≤ 100) (hV : V ≤ 1000) : ∃ (c : Int) (r : Value), ((r = .nilIface ∧ c = 0 ∧ Co V R a b) ∨ (r = .iface 74 (.int .i64 c) ∧ c ≠ 0)) ∧
    (∀ y, Below w.heap.size w y → Calls Tryd.prog 24 #[xv, .int .i64 a, .int .i64 b] y fun x w' => x = .returned (.int .i64 c) ∧ Below y.heap.size y w') ∧
    (∀ y, TA y lo tb V E R → Calls Tryd.prog 42 #[.pointer (some ⟨tb, 0, none⟩), .agg #[.int .i64 a, .int .i64 b]] y fun x w' => x = .returned r ∧ Below y.heap.size y w') := by
  have ht := h.tn
  have hl : ∀ u, u < V → (R u).length ≤ 1000 := fun u hu => by have := ht.len hu; omega
  by_cases ha : a < 0 ∨ (V : Int) ≤ a
  · exact ⟨12, .iface 74 (.int .i64 12), .inr ⟨rfl, by decide⟩, fun y hy => rcorner_range xv F V R a b y (h.rt.below hy) ha, fun y hy => check_range hy a b ha⟩
  · obtain ⟨u, rfl⟩ : ∃ u : Nat, a = (u : Int) := ⟨a.toNat, by omega⟩
    have hu : u < V := by omega
    by_cases hc : Co V R (u : Int) b
    · refine ⟨0, .nilIface, .inl ⟨rfl, rfl, hc⟩, fun y hy => ?_, fun y hy => check_in hy u b .nilIface hu (.inl ⟨rfl, hc⟩)⟩
      refine (rcorner_any xv F V u R b y (h.rt.below hy) ht hu hV hl).mono ?_
      rintro x w' ⟨c, rfl, h1 | h1, b1⟩
      · rw [h1.1]; exact ⟨rfl, b1⟩
      · exact absurd hc h1.2
    · refine ⟨13, .iface 74 (.int .i64 13), .inr ⟨rfl, by decide⟩, fun y hy => ?_, fun y hy => check_in hy u b _ hu (.inr ⟨rfl, hc⟩)⟩
      refine (rcorner_any xv F V u R b y (h.rt.below hy) ht hu hV hl).mono ?_
      rintro x w' ⟨c, rfl, h1 | h1, b1⟩
      · exact absurd h1.2 hc
      · rw [h1.1]; exact ⟨rfl, b1⟩

/-- What both Lays do. -/
theorem both_lay {w : World} {lo tb V E F : Nat} {xv : Value} {R : Nat → List Nat} (h : Bo w lo tb xv V E F R) (e a0 a1 b0 b1 : Int) (hef : (e < 0 ∨ (E : Int) ≤ e) ∨ e < (F : Int)) (hE : F ≤ 100) (hV : V ≤ 1000) : ∃ (R' : Nat → List Nat) (c : Int) (r : Value), (Tn V F R' ∧ Tw V F R') ∧ ((r = .nilIface ∧ c = 0) ∨ (r = .iface 74 (.int .i64 c) ∧ c ≠ 0)) ∧
    (∀ y, Below w.heap.size w y → Calls Tryd.prog 50 #[xv, .int .i64 e, .agg #[.int .i64 a0, .int .i64 a1], .agg #[.int .i64 b0, .int .i64 b1]] y fun x w' => ∃ xv', x = .returned (.tuple #[xv', .int .i64 c]) ∧ RT w' xv' F V R' ∧ Below y.heap.size y w') ∧
    (∀ y, TA y lo tb V E R → Calls Tryd.prog 29 #[.pointer (some ⟨tb, 0, none⟩), .int .i64 e, .agg #[.int .i64 a0, .int .i64 a1], .agg #[.int .i64 b0, .int .i64 b1]] y fun x w' => x = .returned r ∧ TA w' lo tb V E R' ∧ Kp lo y w') := by
  have ht := h.tn
  by_cases he : e < 0 ∨ (E : Int) ≤ e
  · refine ⟨R, 12, .iface 74 (.int .i64 12), ⟨h.tn, h.tw⟩, .inr ⟨rfl, by decide⟩, fun y hy => ?_, fun y hy => ?_⟩
    · exact (rlay_range xv F V e a0 a1 b0 b1 R y (h.rt.below hy) (by have := h.le; omega)).mono fun x w' ⟨e1, b⟩ => ⟨xv, e1, (h.rt.below hy).below b, b⟩
    · exact (lay_range hy e a0 a1 b0 b1 he).mono fun x w' ⟨e1, b⟩ => ⟨e1, hy.more b, Kp.ofBelow b _⟩
  · obtain ⟨k, rfl⟩ : ∃ k : Nat, e = (k : Int) := ⟨e.toNat, by omega⟩
    have hk : k < F := by omega
    have hkE : k < E := by have := h.le; omega
    by_cases hi : In V R (2 * k)
    · refine ⟨R, 20, .iface 74 (.int .i64 20), ⟨h.tn, h.tw⟩, .inr ⟨rfl, by decide⟩, fun y hy => ?_, fun y hy => ?_⟩
      · exact (rlay_same xv F V k a0 a1 b0 b1 R y (h.rt.below hy) hk hE hV ht hi).mono fun x w' ⟨e1, b⟩ => ⟨xv, e1, (h.rt.below hy).below b, b⟩
      · exact (lay_same hy k a0 a1 b0 b1 hkE hi).mono fun x w' ⟨e1, b⟩ => ⟨e1, hy.more b, Kp.ofBelow b _⟩
    · obtain ⟨ca, ra, ha, ha1, ha2⟩ := both_check h a0 a1 hE hV
      obtain ⟨cb, rb, hb, hb1, hb2⟩ := both_check h b0 b1 hE hV
      have bad : ∀ (c : Int) (r : Value), c ≠ 0 → r = .iface 74 (.int .i64 c) → ((∃ z, ra = .iface 74 (.int .i64 z) ∧ r = ra) ∨ (ra = .nilIface ∧ ∃ z, rb = .iface 74 (.int .i64 z) ∧ r = rb)) → ((ca ≠ 0 ∧ c = ca) ∨ (ca = 0 ∧ cb ≠ 0 ∧ c = cb)) → ∃ (R' : Nat → List Nat) (c : Int) (r : Value), (Tn V F R' ∧ Tw V F R') ∧ ((r = .nilIface ∧ c = 0) ∨ (r = .iface 74 (.int .i64 c) ∧ c ≠ 0)) ∧
          (∀ y, Below w.heap.size w y → Calls Tryd.prog 50 #[xv, .int .i64 (k : Int), .agg #[.int .i64 a0, .int .i64 a1], .agg #[.int .i64 b0, .int .i64 b1]] y fun x w' => ∃ xv', x = .returned (.tuple #[xv', .int .i64 c]) ∧ RT w' xv' F V R' ∧ Below y.heap.size y w') ∧
          (∀ y, TA y lo tb V E R → Calls Tryd.prog 29 #[.pointer (some ⟨tb, 0, none⟩), .int .i64 (k : Int), .agg #[.int .i64 a0, .int .i64 a1], .agg #[.int .i64 b0, .int .i64 b1]] y fun x w' => x = .returned r ∧ TA w' lo tb V E R' ∧ Kp lo y w') := fun c r hc hr h1 h2 => by
        refine ⟨R, c, r, ⟨h.tn, h.tw⟩, .inr ⟨hr, hc⟩, fun y hy => ?_, fun y hy => ?_⟩
        · exact (rlay_bad xv F V k a0 a1 b0 b1 c ca cb R y (h.rt.below hy) hk hE hV ht hi (fun z hz => ha1 z (hy.trans (hz.mono hy.size))) (fun z hz => hb1 z (hy.trans (hz.mono hy.size))) h2).mono fun x w' ⟨e1, b⟩ => ⟨xv, e1, (h.rt.below hy).below b, b⟩
        · exact (lay_bad hy k a0 a1 b0 b1 r ra rb hkE hi (fun z hz => ha2 z (hy.more hz)) (fun z hz => hb2 z (hy.more hz)) h1).mono fun x w' ⟨e1, b⟩ => ⟨e1, hy.more b, Kp.ofBelow b _⟩
      rcases ha with ⟨rfl, rfl, hca⟩ | ⟨rfl, hca⟩
      · rcases hb with ⟨rfl, rfl, hcb⟩ | ⟨rfl, hcb⟩
        · obtain ⟨u, rfl, hu, _⟩ := id hca
          obtain ⟨v, rfl, hv, _⟩ := id hcb
          have hj : ¬ In V R (2 * k + 1) := fun q => hi ((h.tw k hk).2 q)
          refine ⟨layR R k u v (co a1) (co b1), 0, .nilIface, ⟨(ht.lay h.tw hk hu hv hca.mem hcb.mem hi).1, (ht.lay h.tw hk hu hv hca.mem hcb.mem hi).2.1⟩, .inl ⟨rfl, rfl⟩, fun y hy => ?_, fun y hy => ?_⟩
          · exact rlay_ok xv F V k u v a1 b1 R y (h.rt.below hy) ht hk hu hv hE hV hi hca hcb
          · exact lay_ok hy k u v a1 b1 hkE hi hj hca hcb
        · exact bad cb _ hcb rfl (.inr ⟨rfl, cb, rfl, rfl⟩) (.inr ⟨rfl, hcb, rfl⟩)
      · exact bad ca _ hca rfl (.inl ⟨ca, rfl, rfl⟩) (.inl ⟨hca, rfl⟩)

end Go.Proofs.YtieglcjfphmglaaDoor
