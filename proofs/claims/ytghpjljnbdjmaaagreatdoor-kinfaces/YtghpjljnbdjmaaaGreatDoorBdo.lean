/- 'do', walked: an act is done to both. 'do', walked. -/
import Derived.Test.YtghpjljnbdjmaaaGreatDoorBerr
import Derived.Test.YtghpjljnbdjmaaaGreatDoorLibL10
import Derived.Test.YtghpjljnbdjmaaaGreatDoorOpen10
namespace Go.Proofs.YtghpjljnbdjmaaaGreatDoor
open Go.RowKit
set_option linter.unusedVariables false

/-- The two, side by side. -/
structure Bo (w : World) (lo tb : Nat) (xv : Value) (V E F : Nat) (R : Nat → List Nat) : Prop where
  ta : TA w lo tb V E R
  rt : RT w xv F V R
  tn : Tn V F R
  tw : Tw V F R
  le : F ≤ E

/-- An act's cells as a value. -/
abbrev acv (q : Ac) : Value := .agg #[.int .i64 q.k, .int .i64 q.e, .int .i64 q.a0, .int .i64 q.a1, .int .i64 q.b0, .int .i64 q.b1]

theorem Bo.more {w w' : World} {lo tb : Nat} {xv : Value} {V E F : Nat} {R : Nat → List Nat} (h : Bo w lo tb xv V E F R) (hb : Below w.heap.size w w') : Bo w' lo tb xv V E F R := ⟨h.ta.more hb, h.rt.below hb, h.tn, h.tw, h.le⟩

/-- What both Lifts do: the same number, the same lists. -/
theorem both_lift {w : World} {lo tb V E F : Nat} {xv : Value} {R : Nat → List Nat} (h : Bo w lo tb xv V E F R) (e : Int) (hef : (e < 0 ∨ (E : Int) ≤ e) ∨ e < (F : Int)) (hE : F ≤ 100) (hV : V ≤ 1000) : ∃ (R' : Nat → List Nat) (c : Int) (r : Value), (Tn V F R' ∧ Tw V F R') ∧ ((r = .nilIface ∧ c = 0) ∨ (r = .iface 88 (.int .i64 c) ∧ c ≠ 0)) ∧
    (∀ y, Below w.heap.size w y → Calls Tryz.prog 52 #[xv, .int .i64 e] y fun x w' => ∃ xv', x = .returned (.tuple #[xv', .int .i64 c]) ∧ RT w' xv' F V R' ∧ Below y.heap.size y w') ∧
    (∀ y, TA y lo tb V E R → Calls Tryz.prog 27 #[.pointer (some ⟨tb, 0, none⟩), .int .i64 e] y fun x w' => x = .returned r ∧ TA w' lo tb V E R' ∧ Kp lo y w') := by
  have ht := h.tn
  by_cases he : e < 0 ∨ (E : Int) ≤ e
  · refine ⟨R, 12, .iface 88 (.int .i64 12), ⟨h.tn, h.tw⟩, .inr ⟨rfl, by decide⟩, fun y hy => ?_, fun y hy => ?_⟩
    · exact (rlift_range xv F V e R y (h.rt.below hy) (by have := h.le; omega)).mono fun x w' ⟨e1, b⟩ => ⟨xv, e1, (h.rt.below hy).below b, b⟩
    · exact (lift_range hy e he).mono fun x w' ⟨e1, b⟩ => ⟨e1, b ▸ hy, b ▸ Kp.refl _ _⟩
  · obtain ⟨k, rfl⟩ : ∃ k : Nat, e = (k : Int) := ⟨e.toNat, by omega⟩
    have hk : k < F := by omega
    have hkE : k < E := by have := h.le; omega
    by_cases hi : In V R (2 * k)
    · have hj := (h.tw k hk).1 hi
      have hl : ∀ u, u < V → (R u).length ≤ 1000 := fun u hu => by have := ht.len hu; omega
      refine ⟨liftR R k, 0, .nilIface, ⟨(ht.lift h.tw).1, (ht.lift h.tw).2.1⟩, .inl ⟨rfl, rfl⟩, fun y hy => ?_, fun y hy => ?_⟩
      · exact rlift_ok xv F V k R y (h.rt.below hy) ht hk hi hj (by omega) hV hl
      · exact lift_ok hy k hkE hi hj
    · refine ⟨R, 13, .iface 88 (.int .i64 13), ⟨h.tn, h.tw⟩, .inr ⟨rfl, by decide⟩, fun y hy => ?_, fun y hy => ?_⟩
      · exact (rlift_stale xv F V k R y (h.rt.below hy) hk hE hV ht hi).mono fun x w' ⟨e1, b⟩ => ⟨xv, e1, (h.rt.below hy).below b, b⟩
      · exact (lift_stale hy k hkE hi).mono fun x w' ⟨e1, b⟩ => ⟨e1, hy.more b, Kp.ofBelow b _⟩

/-- What both Checks say of a corner. -/
theorem both_check {w : World} {lo tb V E F : Nat} {xv : Value} {R : Nat → List Nat} (h : Bo w lo tb xv V E F R) (a b : Int) (hE : F ≤ 100) (hV : V ≤ 1000) : ∃ (c : Int) (r : Value), ((r = .nilIface ∧ c = 0 ∧ Co V R a b) ∨ (r = .iface 88 (.int .i64 c) ∧ c ≠ 0)) ∧
    (∀ y, Below w.heap.size w y → Calls Tryz.prog 98 #[xv, .int .i64 a, .int .i64 b] y fun x w' => x = .returned (.int .i64 c) ∧ Below y.heap.size y w') ∧
    (∀ y, TA y lo tb V E R → Calls Tryz.prog 63 #[.pointer (some ⟨tb, 0, none⟩), .agg #[.int .i64 a, .int .i64 b]] y fun x w' => x = .returned r ∧ Below y.heap.size y w') := by
  have ht := h.tn
  have hl : ∀ u, u < V → (R u).length ≤ 1000 := fun u hu => by have := ht.len hu; omega
  by_cases ha : a < 0 ∨ (V : Int) ≤ a
  · exact ⟨12, .iface 88 (.int .i64 12), .inr ⟨rfl, by decide⟩, fun y hy => rcorner_range xv F V R a b y (h.rt.below hy) ha, fun y hy => check_range hy a b ha⟩
  · obtain ⟨u, rfl⟩ : ∃ u : Nat, a = (u : Int) := ⟨a.toNat, by omega⟩
    have hu : u < V := by omega
    by_cases hc : Co V R (u : Int) b
    · refine ⟨0, .nilIface, .inl ⟨rfl, rfl, hc⟩, fun y hy => ?_, fun y hy => check_in hy u b .nilIface hu (.inl ⟨rfl, hc⟩)⟩
      refine (rcorner_any xv F V u R b y (h.rt.below hy) ht hu hV hl).mono ?_
      rintro x w' ⟨c, rfl, h1 | h1, b1⟩
      · rw [h1.1]; exact ⟨rfl, b1⟩
      · exact absurd hc h1.2
    · refine ⟨13, .iface 88 (.int .i64 13), .inr ⟨rfl, by decide⟩, fun y hy => ?_, fun y hy => check_in hy u b _ hu (.inr ⟨rfl, hc⟩)⟩
      refine (rcorner_any xv F V u R b y (h.rt.below hy) ht hu hV hl).mono ?_
      rintro x w' ⟨c, rfl, h1 | h1, b1⟩
      · exact absurd h1.2 hc
      · rw [h1.1]; exact ⟨rfl, b1⟩

/-- What both Lays do. -/
theorem both_lay {w : World} {lo tb V E F : Nat} {xv : Value} {R : Nat → List Nat} (h : Bo w lo tb xv V E F R) (e a0 a1 b0 b1 : Int) (hef : (e < 0 ∨ (E : Int) ≤ e) ∨ e < (F : Int)) (hE : F ≤ 100) (hV : V ≤ 1000) : ∃ (R' : Nat → List Nat) (c : Int) (r : Value), (Tn V F R' ∧ Tw V F R') ∧ ((r = .nilIface ∧ c = 0) ∨ (r = .iface 88 (.int .i64 c) ∧ c ≠ 0)) ∧
    (∀ y, Below w.heap.size w y → Calls Tryz.prog 66 #[xv, .int .i64 e, .agg #[.int .i64 a0, .int .i64 a1], .agg #[.int .i64 b0, .int .i64 b1]] y fun x w' => ∃ xv', x = .returned (.tuple #[xv', .int .i64 c]) ∧ RT w' xv' F V R' ∧ Below y.heap.size y w') ∧
    (∀ y, TA y lo tb V E R → Calls Tryz.prog 29 #[.pointer (some ⟨tb, 0, none⟩), .int .i64 e, .agg #[.int .i64 a0, .int .i64 a1], .agg #[.int .i64 b0, .int .i64 b1]] y fun x w' => x = .returned r ∧ TA w' lo tb V E R' ∧ Kp lo y w') := by
  have ht := h.tn
  by_cases he : e < 0 ∨ (E : Int) ≤ e
  · refine ⟨R, 12, .iface 88 (.int .i64 12), ⟨h.tn, h.tw⟩, .inr ⟨rfl, by decide⟩, fun y hy => ?_, fun y hy => ?_⟩
    · exact (rlay_range xv F V e a0 a1 b0 b1 R y (h.rt.below hy) (by have := h.le; omega)).mono fun x w' ⟨e1, b⟩ => ⟨xv, e1, (h.rt.below hy).below b, b⟩
    · exact (lay_range hy e a0 a1 b0 b1 he).mono fun x w' ⟨e1, b⟩ => ⟨e1, hy.more b, Kp.ofBelow b _⟩
  · obtain ⟨k, rfl⟩ : ∃ k : Nat, e = (k : Int) := ⟨e.toNat, by omega⟩
    have hk : k < F := by omega
    have hkE : k < E := by have := h.le; omega
    by_cases hi : In V R (2 * k)
    · refine ⟨R, 20, .iface 88 (.int .i64 20), ⟨h.tn, h.tw⟩, .inr ⟨rfl, by decide⟩, fun y hy => ?_, fun y hy => ?_⟩
      · exact (rlay_same xv F V k a0 a1 b0 b1 R y (h.rt.below hy) hk hE hV ht hi).mono fun x w' ⟨e1, b⟩ => ⟨xv, e1, (h.rt.below hy).below b, b⟩
      · exact (lay_same hy k a0 a1 b0 b1 hkE hi).mono fun x w' ⟨e1, b⟩ => ⟨e1, hy.more b, Kp.ofBelow b _⟩
    · obtain ⟨ca, ra, ha, ha1, ha2⟩ := both_check h a0 a1 hE hV
      obtain ⟨cb, rb, hb, hb1, hb2⟩ := both_check h b0 b1 hE hV
      have bad : ∀ (c : Int) (r : Value), c ≠ 0 → r = .iface 88 (.int .i64 c) → ((∃ z, ra = .iface 88 (.int .i64 z) ∧ r = ra) ∨ (ra = .nilIface ∧ ∃ z, rb = .iface 88 (.int .i64 z) ∧ r = rb)) → ((ca ≠ 0 ∧ c = ca) ∨ (ca = 0 ∧ cb ≠ 0 ∧ c = cb)) → ∃ (R' : Nat → List Nat) (c : Int) (r : Value), (Tn V F R' ∧ Tw V F R') ∧ ((r = .nilIface ∧ c = 0) ∨ (r = .iface 88 (.int .i64 c) ∧ c ≠ 0)) ∧
          (∀ y, Below w.heap.size w y → Calls Tryz.prog 66 #[xv, .int .i64 (k : Int), .agg #[.int .i64 a0, .int .i64 a1], .agg #[.int .i64 b0, .int .i64 b1]] y fun x w' => ∃ xv', x = .returned (.tuple #[xv', .int .i64 c]) ∧ RT w' xv' F V R' ∧ Below y.heap.size y w') ∧
          (∀ y, TA y lo tb V E R → Calls Tryz.prog 29 #[.pointer (some ⟨tb, 0, none⟩), .int .i64 (k : Int), .agg #[.int .i64 a0, .int .i64 a1], .agg #[.int .i64 b0, .int .i64 b1]] y fun x w' => x = .returned r ∧ TA w' lo tb V E R' ∧ Kp lo y w') := fun c r hc hr h1 h2 => by
        refine ⟨R, c, r, ⟨h.tn, h.tw⟩, .inr ⟨hr, hc⟩, fun y hy => ?_, fun y hy => ?_⟩
        · exact (rlay_bad xv F V k a0 a1 b0 b1 c ca cb R y (h.rt.below hy) hk hE hV ht hi (fun z hz => ha1 z (hy.trans (hz.mono hy.size))) (fun z hz => hb1 z (hy.trans (hz.mono hy.size))) h2).mono fun x w' ⟨e1, b⟩ => ⟨xv, e1, (h.rt.below hy).below b, b⟩
        · exact (lay_bad hy k a0 a1 b0 b1 r ra rb hkE hi (fun z hz => ha2 z (hy.more hz)) (fun z hz => hb2 z (hy.more hz)) h1).mono fun x w' ⟨e1, b⟩ => ⟨e1, hy.more b, Kp.ofBelow b _⟩
      rcases ha with ⟨rfl, rfl, hca⟩ | ⟨rfl, hca⟩
      · rcases hb with ⟨rfl, rfl, hcb⟩ | ⟨rfl, hcb⟩
        · obtain ⟨u, rfl, hu, _⟩ := id hca
          obtain ⟨v, rfl, hv, _⟩ := id hcb
          have hj : ¬ In V R (2 * k + 1) := fun q => hi ((h.tw k hk).2 q)
          refine ⟨layR R k u v (co a1) (co b1), 0, .nilIface, ⟨(ht.lay h.tw hk hu hv hca.mem hcb.mem hi).1, (ht.lay h.tw hk hu hv hca.mem hcb.mem hi).2.1⟩, .inl ⟨rfl, rfl⟩, fun y hy => ?_, fun y hy => ?_⟩
          · exact rlay_ok xv F V k u v a1 b1 R y (h.rt.below hy) ht hk hu hv hE hV hi hca hcb
          · exact lay_ok hy k u v a1 b1 hkE hi hj hca hcb
        · exact bad cb _ hcb rfl (.inr ⟨rfl, cb, rfl, rfl⟩) (.inr ⟨rfl, hcb, rfl⟩)
      · exact bad ca _ hca rfl (.inl ⟨ca, rfl, rfl⟩) (.inl ⟨hca, rfl⟩)

end Go.Proofs.YtghpjljnbdjmaaaGreatDoor

namespace Go.Proofs.YtghpjljnbdjmaaaGreatDoor
open Go.RowKit
set_option linter.unusedVariables false

theorem Handle.kp {w w' : World} {lo : Nat} (hg : Handle w) (hk : Kp lo w w') (h0 : 0 < lo) : Handle w' := by
  have hl := hg.lt
  have := hk.block 0 hl (.inl h0)
  unfold Handle
  rw [World.cell?_of_block (a := ⟨0, 0, none⟩) this]
  exact hg

theorem num_any (r : Value) (c : Int) (y : World) (hg : Handle y) (h : (r = .nilIface ∧ c = 0) ∨ (r = .iface 88 (.int .i64 c) ∧ c ≠ 0)) : Calls Tryz.prog 12 #[r] y fun e w' => e = .returned (.int .i64 c) ∧ Below y.heap.size y w' := by
  rcases h with ⟨rfl, rfl⟩ | ⟨rfl, _⟩
  · exact num_nil y
  · exact num_err c y hg

theorem TA.keepT {w w' : World} {lo tb V E : Nat} {R : Nat → List Nat} (h : TA w lo tb V E R) (hk : ∀ b, Mi w b → w'.heap[b]? = w.heap[b]?) : TA w' lo tb V E R := by
  obtain ⟨dv, sv, K, M, D, S, h1, h2⟩ := h
  exact ⟨dv, sv, K, M, D, S, h1.of (hk tb (.inl h1.ty)) (fun k hk' => hk k (.inr (.inl (h1.dty hk')))) (fun k hk' => hk k (.inr (.inr (h1.sty hk')))), h2⟩

theorem Mi.ne {w : World} {b g : Nat} {t : TypeId} (h : Mi w b) (hg : Ty w g t) (h1 : t ≠ 117) (h2 : t ≠ 106) (h3 : t ≠ 110) : b ≠ g := fun e => by
  subst e
  rcases h with h | h | h
  · exact h1 (hg.uniq h)
  · exact h2 (hg.uniq h)
  · exact h3 (hg.uniq h)

theorem TA.set2 {w : World} {lo tb V E g : Nat} {R : Nat → List Nat} (h : TA w lo tb V E R) (hg : Ty w g 27) (p q : Value) : TA ((w.setCell ⟨g, 0, none⟩ p).setCell ⟨g, 1, none⟩ q) lo tb V E R :=
  h.keepT (fun b hb => by
    have hne := hb.ne hg (by decide) (by decide) (by decide)
    rw [Below.heap_setCell _ _ _ _ hne, Below.heap_setCell _ _ _ _ hne])

theorem Kp.set2 {lo : Nat} {w w' : World} (h : Kp lo w w') {g : Nat} (hp : w.heap.size ≤ g) (p q : Value) : Kp lo w ((w'.setCell ⟨g, 0, none⟩ p).setCell ⟨g, 1, none⟩ q) :=
  (h.setNew (p := ⟨g, 0, none⟩) hp p).setNew (p := ⟨g, 1, none⟩) hp q

/-- 'do's three blocks. -/
def Dk (s F : Nat) (lv : Value) (q : Ac) (y : World) : Prop :=
  y.heap[s]? = some (.cells #[.int .i64 (F : Int), lv] 27 (0, 0)) ∧ y.heap[s + 1]? = some (.cells #[.int .i64 q.k, .int .i64 q.e, .int .i64 q.a0, .int .i64 q.a1, .int .i64 q.b0, .int .i64 q.b1] 73 (0, 0)) ∧ y.heap[s + 2]? = some (.cells #[.int .i64 0, .slice none 0 0] 27 (0, 0))

theorem Dk.new (w : World) (F : Nat) (lv : Value) (q : Ac) : Dk w.heap.size F lv q (((w.alloc (.cells #[.int .i64 (F : Int), lv] 27)).alloc (.cells #[.int .i64 q.k, .int .i64 q.e, .int .i64 q.a0, .int .i64 q.a1, .int .i64 q.b0, .int .i64 q.b1] 73)).alloc (.cells #[.int .i64 0, .slice none 0 0] 27)) := by
  obtain ⟨w1, hw1⟩ : ∃ w1, w.alloc (.cells #[.int .i64 (F : Int), lv] 27) = w1 := ⟨_, rfl⟩
  have s1 : w1.heap.size = w.heap.size + 1 := by rw [← hw1]; exact World.size_alloc _ _
  have h1 : w1.heap[w.heap.size]? = some (.cells #[.int .i64 (F : Int), lv] 27 (0, 0)) := by rw [← hw1]; exact heap_alloc_new w _
  rw [hw1]
  obtain ⟨w2, hw2⟩ : ∃ w2, w1.alloc (.cells #[.int .i64 q.k, .int .i64 q.e, .int .i64 q.a0, .int .i64 q.a1, .int .i64 q.b0, .int .i64 q.b1] 73) = w2 := ⟨_, rfl⟩
  have s2 : w2.heap.size = w.heap.size + 2 := by rw [← hw2, World.size_alloc, s1]
  have h2 : w2.heap[w.heap.size + 1]? = some (.cells #[.int .i64 q.k, .int .i64 q.e, .int .i64 q.a0, .int .i64 q.a1, .int .i64 q.b0, .int .i64 q.b1] 73 (0, 0)) := by rw [← hw2, ← s1]; exact heap_alloc_new w1 _
  have b2 : Below w1.heap.size w1 w2 := by rw [← hw2]; exact balloc _ _
  rw [hw2]
  have b4 := balloc w2 (.cells #[.int .i64 0, .slice none 0 0] 27)
  have h4 := heap_alloc_new w2 (.cells #[.int .i64 0, .slice none 0 0] 27)
  rw [s2] at h4
  refine ⟨?_, ?_, h4⟩
  · rw [b4.block _ (by omega), b2.block _ (by omega)]; exact h1
  · rw [b4.block _ (by omega)]; exact h2

section
variable {s F : Nat} {lv : Value} {q : Ac} {y y' : World}
theorem Dk.below (h : Dk s F lv q y) (hb : Below y.heap.size y y') : Dk s F lv q y' :=
  ⟨(hb.block _ (Array.getElem?_eq_some_iff.1 h.1).1).trans h.1, (hb.block _ (Array.getElem?_eq_some_iff.1 h.2.1).1).trans h.2.1, (hb.block _ (Array.getElem?_eq_some_iff.1 h.2.2).1).trans h.2.2⟩
theorem Dk.kp {lo : Nat} (h : Dk s F lv q y) (hk : Kp lo y y') : Dk s F lv q y' :=
  ⟨(hk.keep ⟨_, _, h.1⟩ (by decide) (by decide) (by decide)).trans h.1, (hk.keep ⟨_, _, h.2.1⟩ (by decide) (by decide) (by decide)).trans h.2.1, (hk.keep ⟨_, _, h.2.2⟩ (by decide) (by decide) (by decide)).trans h.2.2⟩
theorem Dk.act (h : Dk s F lv q y) : y.cell? ⟨s + 1, 0, none⟩ = some (.int .i64 q.k) ∧ y.cell? ⟨s + 1, 1, none⟩ = some (.int .i64 q.e) ∧ y.cell? ⟨s + 1, 2, none⟩ = some (.int .i64 q.a0) ∧ y.cell? ⟨s + 1, 3, none⟩ = some (.int .i64 q.a1) ∧ y.cell? ⟨s + 1, 4, none⟩ = some (.int .i64 q.b0) ∧ y.cell? ⟨s + 1, 5, none⟩ = some (.int .i64 q.b1) := by
  unfold World.cell?
  rw [h.2.1]
  exact ⟨rfl, rfl, rfl, rfl, rfl, rfl⟩
end

set_option maxRecDepth 100000 in
set_option maxHeartbeats 2000000 in
theorem do_lift {w : World} {lo tb V E F : Nat} {xv : Value} {R : Nat → List Nat} (h : Bo w lo tb xv V E F R) (q : Ac) (κ : Nat) (hκ : wrap64 ((IntKind.u64.wrap q.k).tmod 12) = (κ : Int)) (hκ9 : 9 < κ) (hκ12 : κ < 12) (hg : Handle w) (hlo : 0 < lo) (hV : V ≤ 1000) (hE : F ≤ 100) (hef : (q.e < 0 ∨ (E : Int) ≤ q.e) ∨ q.e < (F : Int)) :
    Calls Tryz.prog 32 #[.pointer (some ⟨tb, 0, none⟩), xv, acv q] w fun x w' => ∃ xv' R', x = .returned (.tuple #[xv', .bool true]) ∧ Bo w' lo tb xv' V E F R' ∧ Kp lo w w' := by
  obtain ⟨R', c, r, htt, hr, hl1, hl2⟩ := both_lift h q.e hef hE hV
  have hnum := hid (fun y hy => num_any r c y hy hr)
  replace hl1 := hid hl1
  replace hl2 := hid hl2
  replace hg := hid hg
  have hle := h.le
  have hta := hid h.ta
  have hrt := h.rt
  obtain ⟨lv, rfl, ad, cap, rfl, _⟩ := hrt
  have hk := hid (Dk.new w F (.slice ad V cap) q)
  obtain ⟨w1, hw1⟩ : ∃ w1, ((w.alloc (.cells #[.int .i64 (F : Int), .slice ad V cap] 27)).alloc (.cells #[.int .i64 q.k, .int .i64 q.e, .int .i64 q.a0, .int .i64 q.a1, .int .i64 q.b0, .int .i64 q.b1] 73)).alloc (.cells #[.int .i64 0, .slice none 0 0] 27) = w1 := ⟨_, rfl⟩
  have hb1 : Hid (Below w.heap.size w w1) := by
    rw [← hw1]
    exact hid ((((Below.refl w.heap.size w).alloc (Nat.le_refl _) _).alloc (by simp) _).alloc (by simp; omega) _)
  rw [hw1] at hk
  replace hw1 := hid hw1
  obtain ⟨k0, k1, k2, k3, k4, k5⟩ := hk.out.act
  obtain ⟨p0, p1, _, _⟩ := blk2 hk.out.1
  have t1 : decide (9 < (κ : Int)) = true := decide_eq_true (by omega)
  have t1' : decide ((κ : Int) > 9) = true := decide_eq_true (by omega)
  obtain ⟨qk, qe, qa0, qa1, qb0, qb1⟩ := q
  simp only [] at *
  clear h hr hef
  go_enter Tryz.func32, Tryz.ntmps32
  go_upto_region 1 with fail
  rw [hw1.out]
  go_wp2_with fail
  refine (hl1.out _ hb1.out).mono ?_
  rintro x w2 ⟨xv', rfl, hx2, b2⟩
  have hx2' := hx2
  obtain ⟨lv', rfl, ad', cap', rfl, _⟩ := hx2'
  have hk2 := hid (hk.out.below b2)
  have hb2 : Hid (Below w.heap.size w w2) := hb1.out.trans (b2.mono hb1.out.size)
  have hnew := hid (heap_alloc_new w2 (.cells #[.int .i64 (F : Int), .slice ad' V cap'] 27))
  have hk3 := hid (hk2.out.below (balloc w2 (.cells #[.int .i64 (F : Int), .slice ad' V cap'] 27)))
  have hb3 := hid (hb2.out.alloc hb2.out.size (.cells #[.int .i64 (F : Int), .slice ad' V cap'] 27))
  have hx3 := hid (hx2.below (balloc w2 (.cells #[.int .i64 (F : Int), .slice ad' V cap'] 27)))
  have hs2 : w.heap.size + 3 ≤ w2.heap.size := by have := (Array.getElem?_eq_some_iff.1 hk2.out.2.2).1; omega
  obtain ⟨w3, hw3⟩ : ∃ w3, w2.alloc (.cells #[.int .i64 (F : Int), .slice ad' V cap'] 27) = w3 := ⟨_, rfl⟩
  rw [hw3] at hnew hk3 hb3 hx3
  replace hw3 := hid hw3
  clear b2 hx2 k0 k1 k2 k3 k4 k5 p0 p1 hk hb1 hw1 hk2 hl1
  obtain ⟨_, e1, _, _, _, _⟩ := hk3.out.act
  obtain ⟨n0, n1, _, _⟩ := blk2 hnew.out
  go_upto_region 4 with fail
  rw [hw3.out]
  clear hw3
  go_region_held3 (fun y => y.cell? ⟨w2.heap.size, 0, none⟩ = some (.int .i64 (F : Int)) ∧ y.cell? ⟨w2.heap.size, 1, none⟩ = some (.slice ad' V cap') ∧ y.cell? ⟨w.heap.size + 1, 1, none⟩ = some (.int .i64 qe)) (first | exact ⟨n0, n1, e1⟩ | exact ⟨m0, m1, f1⟩ | exact ⟨o0, o1, g1⟩ | exact ⟨(cell_set2 (by show w2.heap.size ≠ w.heap.size + 1 + 1; omega) _ _).trans o0, (cell_set2 (by show w2.heap.size ≠ w.heap.size + 1 + 1; omega) _ _).trans o1, (cell_set2 (by show w.heap.size + 1 ≠ w.heap.size + 1 + 1; omega) _ _).trans g1⟩ | go_keep) ((first
    | (go_at_call 27; refine (hl2.out _ (hta.out.more hb3.out.drew)).mono ?_; rintro x w4 ⟨rfl, a4, kp4⟩; have hk4 := hid (Dk.kp (y := w3.drew) hk3.out kp4); have hK4 : Hid (Kp lo w w4) := (Kp.ofBelow hb3.out.drew lo).trans kp4; have hnew4 := hid ((kp4.keep (k := w2.heap.size) ⟨_, _, hnew.out⟩ (by decide) (by decide) (by decide)).trans hnew.out); have hx4 := hid (RT.al (w := w3.drew) (hx3.out.below (Below.refl _ _).drew) kp4.al); obtain ⟨_, f1, _, _, _, _⟩ := hk4.out.act; obtain ⟨m0, m1, _, _⟩ := blk2 hnew4.out; replace a4 := hid a4; clear kp4 hl2)
    | (go_at_call 12; refine (hnum.out w4 (hg.out.kp hK4.out hlo)).mono ?_; rintro x w5 ⟨rfl, b5⟩; have hk5 := hid (hk4.out.below b5); have hK5 : Hid (Kp lo w w5) := hK4.out.trans (Kp.ofBelow b5 lo); have hnew5 := hid ((b5.block _ (Array.getElem?_eq_some_iff.1 hnew4.out).1).trans hnew4.out); have hx5 := hid (hx4.out.below b5); have a5 := hid (a4.out.more b5); obtain ⟨_, g1, _, _, _, _⟩ := hk5.out.act; obtain ⟨o0, o1, _, _⟩ := blk2 hnew5.out; obtain ⟨y1, y2, y3, y4⟩ := blk2 hk5.out.2.2; clear b5 hnum)))
  have hfin := hid (set2_block hk5.out.2.2 (.int .i64 (F : Int)) (.slice ad' V cap'))
  have hF : Hid (Bo ((w5.setCell ⟨w.heap.size + 2, 0, none⟩ (.int .i64 (F : Int))).setCell ⟨w.heap.size + 2, 1, none⟩ (.slice ad' V cap')) lo tb (.agg #[.int .i64 (F : Int), .slice ad' V cap']) V E F R') := ⟨a5.out.set2 ⟨_, _, hk5.out.2.2⟩ _ _, hx5.out.al (set2_al hk5.out.2.2 _ _), htt.1, htt.2, hle⟩
  have hKF := hid (hK5.out.set2 (g := w.heap.size + 2) (by omega) (.int .i64 (F : Int)) (.slice ad' V cap'))
  go_wp2_with fail
  refine bodyPost_ret (results_cell2 rfl _ _ (w.heap.size + 2) 27 _ (0, 0) _ rfl hfin.out Tryz.underlying27 rfl (by kernel_rfl)) rfl ?_
  exact ⟨_, R', by simp, hF.out, hKF.out⟩

end Go.Proofs.YtghpjljnbdjmaaaGreatDoor
