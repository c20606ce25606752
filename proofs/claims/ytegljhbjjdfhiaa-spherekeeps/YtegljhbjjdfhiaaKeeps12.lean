/- 'SphereKeeps', walked. -/
import Derived.Test.YtegljhbjjdfhiaaBtakes
import Derived.Test.YtegljhbjjdfhiaaRegion
import Derived.Test.YtegljhbjjdfhiaaLs10
import Derived.Test.YtegljhbjjdfhiaaBcount
import Derived.Test.YtegljhbjjdfhiaaLegal12
import Derived.Deep.CutBlock
namespace Go.Proofs.Ytegljhbjjdfhiaa
open Go.RowKit
set_option linter.unusedVariables false

/-- The act's block. -/
abbrev acb (q : Ac) : Obj := .cells #[.int .i64 q.k, .int .i64 q.e, .int .i64 q.a0, .int .i64 q.a1, .int .i64 q.b0, .int .i64 q.b1] 25 (0, 0)

theorem acb_all {y : World} {p : Nat} {k e a0 a1 b0 b1 : Int} (h : y.heap[p]? = some (acb ⟨k, e, a0, a1, b0, b1⟩)) : (y.cell? ⟨p, 0, none⟩ = some (.int .i64 k) ∧ y.cell? ⟨p, 1, none⟩ = some (.int .i64 e) ∧ y.cell? ⟨p, 2, none⟩ = some (.int .i64 a0) ∧ y.cell? ⟨p, 3, none⟩ = some (.int .i64 a1) ∧ y.cell? ⟨p, 4, none⟩ = some (.int .i64 b0) ∧ y.cell? ⟨p, 5, none⟩ = some (.int .i64 b1)) ∧ y.frozen? ⟨p, 0, none⟩ = false ∧ y.frozen? ⟨p, 1, none⟩ = false ∧ y.frozen? ⟨p, 2, none⟩ = false ∧ y.frozen? ⟨p, 3, none⟩ = false ∧ y.frozen? ⟨p, 4, none⟩ = false ∧ y.frozen? ⟨p, 5, none⟩ = false := by
  refine ⟨⟨?_, ?_, ?_, ?_, ?_, ?_⟩, ?_, ?_, ?_, ?_, ?_, ?_⟩ <;> (first | (unfold World.cell?; rw [h]; rfl) | (unfold World.frozen?; rw [h]; rfl))

theorem set_at {w : World} {g k : Nat} {t : TypeId} {cs : Array Value} (h : w.heap[g]? = some (.cells cs t (0, 0))) (u : Value) : (w.setCell ⟨g, k, none⟩ u).heap[g]? = some (.cells (cs.setIfInBounds k u) t (0, 0)) := by
  simp [World.setCell, Array.getElem?_modify, h]

/-- Where the law stands. -/
structure Ks (w : World) (tb g V : Nat) (av : Value) (q : Ac) (R : Nat → List Nat) (y : World) : Prop where
  ls : Ls w tb g V 8 8 R y
  xi : Xi V 8 R = 0
  nl : NL y av (List.range V)
  of : y.heap[w.heap.size]? = some (acb q)

section
variable {w y y' : World} {tb g V : Nat} {av : Value} {q : Ac} {R : Nat → List Nat}

theorem Ks.more (h : Ks w tb g V av q R y) (hb : Below y.heap.size y y') : Ks w tb g V av q R y' :=
  ⟨h.ls.more hb, h.xi, h.nl.below hb, (hb.block _ (Array.getElem?_eq_some_iff.1 h.of).1).trans h.of⟩

theorem kp_of {lo b : Nat} {q : Ac} (h : y.heap[b]? = some (acb q)) (hk : Kp lo y y') : y'.heap[b]? = some (acb q) :=
  (hk.keep (t := 25) ⟨_, _, h⟩ (by decide) (by decide) (by decide)).trans h

theorem kp_pair {lo b : Nat} {t : TypeId} {cs : Array Value} (h : y.heap[b]? = some (.cells cs t (0, 0))) (hk : Kp lo y y') (h1 : t ≠ 60) (h2 : t ≠ 81) (h3 : t ≠ 86) : y'.heap[b]? = some (.cells cs t (0, 0)) :=
  (hk.keep ⟨_, _, h⟩ h1 h2 h3).trans h

theorem co_none_of {V : Nat} {R : Nat → List Nat} {u : Nat} {b : Int} (h : Co V R (u : Int) b) (q : co b = none) : R u = [] := by
  obtain ⟨u', e, hu, ⟨rfl, h1⟩ | ⟨d, rfl, h1⟩⟩ := h
  · obtain rfl : u = u' := by omega
    exact h1
  · rw [co_some] at q; cases q

/-- Both have turned. -/
theorem Ks.turn {R' : Nat → List Nat} {y1 y2 : World} {ad : Option Addr} {cap : Nat} (h : Ks w tb g V av q R y) (hk : Kp w.heap.size y y1) (ht : TA y1 w.heap.size tb V 8 R') (hb : Below y1.heap.size y1 y2) (hr : RT y2 (.agg #[.int .i64 ((8 : Nat) : Int), .slice ad V cap]) 8 V R') (tw' : Tw V 8 R') (hx : Xi V 8 R' = 0) :
    Ks w tb g V av q R' ((y2.setCell ⟨g, 0, none⟩ (.int .i64 ((8 : Nat) : Int))).setCell ⟨g, 1, none⟩ (.slice ad V cap)) := by
  obtain ⟨ad0, cap0, h1, h2, h3, h4⟩ := h.ls
  have g1 := kp_pair h2 hk (by decide) (by decide) (by decide)
  have g2 := (hb.block _ (Array.getElem?_eq_some_iff.1 g1).1).trans g1
  have f1 := kp_of h.of hk
  have f2 := (hb.block _ (Array.getElem?_eq_some_iff.1 f1).1).trans f1
  have hne : w.heap.size ≠ g := fun e => by rw [e, g2] at f2; simp at f2
  have b1 := h4.trans (hk.below h4.size)
  have b2 := b1.trans (hb.mono b1.size)
  refine ⟨Ls.store ⟨ht.more hb, hr, ht.tn, tw', Nat.le_refl _⟩ g2 h3 b2, hx, ((h.nl.al hk.al).below hb).al (set2_al g2 _ _), ?_⟩
  rw [Below.heap_setCell _ _ _ _ hne, Below.heap_setCell _ _ _ _ hne]
  exact f2

/-- The Turns have turned, and are what they were. -/
theorem Ks.same {R' : Nat → List Nat} {y1 : World} (h : Ks w tb g V av q R y) (hk : Kp w.heap.size y y1) (ht : TA y1 w.heap.size tb V 8 R') (hs : ∀ x, x < V → R x = R' x) (tw' : Tw V 8 R') : Ks w tb g V av q R' y1 := by
  obtain ⟨ad0, cap0, h1, h2, h3, h4⟩ := h.ls
  have hx := h.xi
  rw [← xi_same h1.tn h1.tw (fun v hv => (hs v hv).symm)] at hx
  obtain ⟨lv, e1, e2⟩ := h1.rt.al hk.al
  exact ⟨⟨ad0, cap0, ⟨ht, ⟨lv, e1, e2.congr hs⟩, ht.tn, tw', Nat.le_refl _⟩, kp_pair h2 hk (by decide) (by decide) (by decide), h3, h4.trans (hk.below h4.size)⟩, hx, h.nl.al hk.al, kp_of h.of hk⟩

/-- What an edge laid does, told of one act. -/
theorem lay_way {V : Nat} {R : Nat → List Nat} {e u v : Nat} {a b : Int} (h : Tn V 8 R) (t : Tw V 8 R) (he : e < 8) (hu : u < V) (hv : v < V) (ha : Co V R (u : Int) a) (hb : Co V R (v : Int) b) (hn : ¬ In V R (2 * e)) (hx : Xi V 8 R = 0) :
    (Tn V 8 (layR R e u v (co a) (co b)) ∧ Tw V 8 (layR R e u v (co a) (co b)) ∧ In V (layR R e u v (co a) (co b)) (2 * e) ∧ In V (layR R e u v (co a) (co b)) (2 * e + 1)) ∧ (Xi V 8 (layR R e u v (co a) (co b)) = 0 ↔ (lb V 8 R u ≠ lb V 8 R v ∨ One V R u v (co a) (co b))) ∧ ∀ x, x < V → R x = liftR (layR R e u v (co a) (co b)) e x := by
  have hl := h.lay t he hu hv ha.mem hb.mem hn
  refine ⟨⟨hl.1, hl.2.1, (hl.2.2 _).2 (.inr (.inl rfl)), (hl.2.2 _).2 (.inl rfl)⟩, lay_flat h t he hu hv ha.mem hb.mem (co_none_of ha) (co_none_of hb) hn hx, fun x hx => (lay_lift h t he hu hv ha.mem hb.mem hn x hx).symm⟩
end

set_option maxRecDepth 100000 in
set_option maxHeartbeats 16000000 in
theorem keeps_law (n : Int) (v : Value) (l : List Ac) (q : Ac) (w : World) (hv : AV w v l) :
    Calls Try.prog 3 #[.int .i64 n, v, acv q] w fun x w' => x = .returned (.bool true) ∧ Below w.heap.size w w' := by
  obtain ⟨j0, hjf, hy0, hy1, hy2⟩ := info_parts infoInt
  obtain ⟨V, hV, hV1, hV6⟩ := mod_up n 6 (by decide) (by decide)
  have hbb := balloc w (acb q)
  have hpb := heap_alloc_new w (acb q)
  obtain ⟨w0, hw0⟩ : ∃ w0, w.alloc (acb q) = w0 := ⟨_, rfl⟩
  rw [hw0] at hbb hpb
  have hnew := hid (new_ok V 8 w0 (by omega) (by omega) (by decide) (by decide))
  have hrn := hid (fun y => rnew_ok 8 V y (by decide) (by omega))
  have hsu := hid (fun y => sure_ok y)
  have hav := hid hv
  obtain ⟨sa, m, sc, rfl, hlen, hmc, hcm, _⟩ := hv
  unfold maxLen at hcm
  replace hlen := hid hlen
  replace hw0 := hid hw0
  replace hbb := hid hbb
  replace hpb := hid hpb
  obtain ⟨qk, qe, qa0, qa1, qb0, qb1⟩ := q
  go_enter Try.func3, Try.ntmps3
  go_upto_region 2 with fail
  try rw [hV]
  try rw [hw0.out]
  clear hV hw0
  go_wp2_with fail
  refine hnew.out.mono ?_
  rintro x w1 ⟨rfl, a1, b1⟩
  replace a1 := hid (a1.down (lo' := w.heap.size) hbb.out.size)
  have hp1 := (b1.block _ (Array.getElem?_eq_some_iff.1 hpb.out).1).trans hpb.out
  have hb1 := hid (hbb.out.trans (b1.mono hbb.out.size))
  clear hnew b1
  go_wp2_with fail
  refine (hrn.out w1).mono ?_
  rintro x w2 ⟨xv, rfl, hx, b2⟩
  obtain ⟨ad0, cap0, rfl, hls0⟩ := Ls.new (w := w) (a1.out.more b2) (hb1.out.trans (b2.mono hb1.out.size)) hx (Nat.le_refl 8)
  have hp2 := (b2.block _ (Array.getElem?_eq_some_iff.1 hp1).1).trans hp1
  obtain ⟨w3, hw3⟩ : ∃ w3, w2.alloc (.cells #[.int .i64 8, .slice ad0 V cap0] 34) = w3 := ⟨_, rfl⟩
  have hls1 : Hid (Ls w w0.heap.size w2.heap.size V 8 8 (fun _ => []) w3) := by rw [← hw3]; exact hid hls0
  have hp3 : Hid (w3.heap[w.heap.size]? = some (acb ⟨qk, qe, qa0, qa1, qb0, qb1⟩)) := by rw [← hw3]; exact hid (al_keep hp2)
  replace hw3 := hid hw3
  obtain ⟨tb, htb⟩ : ∃ tb, w0.heap.size = tb := ⟨_, rfl⟩
  obtain ⟨g, hgg⟩ : ∃ g, w2.heap.size = g := ⟨_, rfl⟩
  clear b2 hx a1 hb1 hrn hls0 hp2 hp1 hpb hbb
  go_upto_region 6 with fail
  rw [hw3.out]
  rw [htb] at hls1
  rw [hgg] at hls1
  try rw [htb]
  try rw [hgg]
  clear hw3 htb hgg
  go_wp2_with fail
  go_loopw [11, 12] (fun s11 s12 wr => ∃ j : Nat, j ≤ V ∧ s12 = .int .i64 (j : Int) ∧ Hid (wr.ownsRow w3.heap.size 3 1 s11 j (ncs (List.range j)) ∧ Below w3.heap.size w3 wr)) (fun _ s12 _ => V - (intOf s12).toNat)
  case atStart => exact ⟨0, by omega, by go_num, hid ⟨World.ownsRow_nil _ _ _ _, Below.refl _ _⟩⟩
  case round =>
    obtain ⟨j, hj, rfl, hst⟩ := hrel
    rcases Nat.lt_or_ge j V with hjl | hjg
    · have v2 : decide ((j : Int) < (V : Int)) = true := decide_eq_true (by omega)
      have v2' : decide (j < V) = true := decide_eq_true (by omega)
      have hown := hst.out.1
      have hbw := hst.out.2
      have hsz := hbw.size
      clear hst
      go_wp2_with (at_builtin; refine wpList_append_own _ rfl (.tmp 48) (.tmp 50) 36 rfl w3.heap.size 3 j0 _ 1 8 Try.underlying36 hjf hy0 hy1 hy2 rfl (by decide) _ _ _ rfl (hown.alloc _) ⟨wr.heap.size, 0, none⟩ 1 1 [.int .i64 (j : Int)] rfl rfl (one_new wr _ _) (by simp [Value.oneCell']) (by unfold maxLen; omega) (by omega) (by simp; omega) ?_; intro v' w' ho' hg' _)
      have hnew : Hid (w'.ownsRow w3.heap.size 3 1 v' (j + 1) (ncs (List.range (j + 1))) ∧ Below w3.heap.size w3 w') :=
        hid ⟨by rw [List.range_succ, ncs_append]; exact ho', below_row (hbw.alloc hsz _) (Nat.le_refl _) (hown.alloc _) (Nat.le_refl _) hg'⟩
      clear ho' hg' hown hbw
      go_wp2_with fail
      go_roundw
      case rel => exact ⟨j + 1, by omega, by go_num, hnew⟩
      case measure => simp [intOf]; omega
    · obtain rfl : j = V := by omega
      have v2 : decide ((j : Int) < (j : Int)) = false := decide_eq_false (by omega)
      have hks0 : Hid (Ks w tb g j u11 ⟨qk, qe, qa0, qa1, qb0, qb1⟩ (fun _ => []) wr) := hid (by
        have hb := hst.out.2
        exact ⟨hls1.out.more hb, xi_new j 8, nl_of (l := List.range j) (base := w3.heap.size) (by simpa using hst.out.1), (hb.block _ (Array.getElem?_eq_some_iff.1 hp3.out).1).trans hp3.out⟩)
      clear hst hls1 hp3
      go_wp2_with fail
      go_loopw [13, 14, 15, 16, 17, 18, 19, 20, 21, 22, 23, 24] (fun s13 _ _ _ _ _ _ _ _ _ _ _ wr => ∃ (i : Nat) (R : Nat → List Nat), i ≤ m + 1 ∧ i ≤ 40 ∧ s13 = .int .i64 (i : Int) ∧ Hid (Ks w tb g j u11 ⟨qk, qe, qa0, qa1, qb0, qb1⟩ R wr)) (fun s13 _ _ _ _ _ _ _ _ _ _ _ _ => 40 - (intOf s13).toNat)
      case atStart => exact ⟨0, _, by omega, by omega, by go_num, hks0⟩
      case round =>
        obtain ⟨i, R, hi, hi40, rfl, hks⟩ := hrel
        clear hks0
        by_cases hlt : i ≤ m ∧ i < 40
        · have v1 : decide ((i : Int) ≤ (m : Int)) = true := decide_eq_true (by omega)
          have v1' : decide (i ≤ m) = true := decide_eq_true (by omega)
          have v3 : decide ((i : Int) < 40) = true := decide_eq_true (by omega)
          have v3' : decide (i < 40) = true := decide_eq_true (by omega)
          obtain ⟨wx, hwx⟩ : ∃ wx, wr = wx := ⟨_, rfl⟩
          rw [hwx] at hks ⊢
          obtain ⟨⟨o0, o1, o2, o3, o4, o5⟩, _⟩ := acb_all hks.out.of
          obtain ⟨A, hA⟩ : ∃ A, wx.heap.size = A := ⟨_, rfl⟩
          obtain ⟨wa, hwa⟩ : ∃ wa, wx.alloc (acb ⟨qk, qe, qa0, qa1, qb0, qb1⟩) = wa := ⟨_, rfl⟩
          have ka : Hid (wa.heap[A]? = some (acb ⟨qk, qe, qa0, qa1, qb0, qb1⟩)) := by rw [← hwa, ← hA]; exact hid (heap_alloc_new _ _)
          have ba : Hid (Below wx.heap.size wx wa) := by rw [← hwa]; exact hid (balloc wx _)
          replace hwa := hid hwa
          go_upto_region 15 with fail
          rw [hwa.out]
          try rw [hA]
          clear hwa o0 o1 o2 o3 o4 o5
          go_upto_if 66 with fail
          go_cut [70] from 66 to 70 (fun _ wy => ∃ a : Ac, Hid (wy.heap[A]? = some (acb a)) ∧ Hid (Below wx.heap.size wx wy))
          case first =>
            by_cases hil : i < m
            · have t1 : decide ((i : Int) < (m : Int)) = true := decide_eq_true (by omega)
              have t1' : decide (i < m) = true := decide_eq_true (by omega)
              obtain ⟨a, ha⟩ : ∃ a, l[i]? = some a := ⟨_, List.getElem?_eq_getElem (by rw [hlen.out]; exact hil)⟩
              have hbwa : Below w.heap.size w wa := hks.out.ls.bel.trans (ba.out.mono hks.out.ls.bel.size)
              obtain ⟨b0, c0, n0, d0, e0, hbl, k0, k1, k2, k3, k4, k5⟩ := hav.out.six hbwa ha
              simp only [Value.slice.injEq] at e0
              obtain ⟨rfl, rfl, rfl⟩ := e0
              have i1 : (0 : Int) ≤ (i : Int) := by omega
              have i2 : (i : Int) < (m : Int) := by omega
              obtain ⟨⟨o0, o1, o2, o3, o4, o5⟩, f0, f1, f2, f3, f4, f5⟩ := acb_all ka.out
              obtain ⟨ak, ae, aa0, aa1, ab0, ab1⟩ := a
              have hfin : Hid (((((((wa.setCell ⟨A, 0, none⟩ (.int .i64 ak)).setCell ⟨A, 1, none⟩ (.int .i64 ae)).setCell ⟨A, 2, none⟩ (.int .i64 aa0)).setCell ⟨A, 3, none⟩ (.int .i64 aa1)).setCell ⟨A, 4, none⟩ (.int .i64 ab0)).setCell ⟨A, 5, none⟩ (.int .i64 ab1)).heap[A]? = some (acb ⟨ak, ae, aa0, aa1, ab0, ab1⟩)) := hid (by
                have h1 := set_at (k := 5) (set_at (k := 4) (set_at (k := 3) (set_at (k := 2) (set_at (k := 1) (set_at (k := 0) ka.out (.int .i64 ak)) (.int .i64 ae)) (.int .i64 aa0)) (.int .i64 aa1)) (.int .i64 ab0)) (.int .i64 ab1)
                exact h1)
              have hbf : Hid (Below wx.heap.size wx ((((((wa.setCell ⟨A, 0, none⟩ (.int .i64 ak)).setCell ⟨A, 1, none⟩ (.int .i64 ae)).setCell ⟨A, 2, none⟩ (.int .i64 aa0)).setCell ⟨A, 3, none⟩ (.int .i64 aa1)).setCell ⟨A, 4, none⟩ (.int .i64 ab0)).setCell ⟨A, 5, none⟩ (.int .i64 ab1))) := hid (by
                have hl : wx.heap.size ≤ A := by omega
                exact (((((ba.out.setCell (p := ⟨A, 0, none⟩) hl _).setCell (p := ⟨A, 1, none⟩) hl _).setCell (p := ⟨A, 2, none⟩) hl _).setCell (p := ⟨A, 3, none⟩) hl _).setCell (p := ⟨A, 4, none⟩) hl _).setCell (p := ⟨A, 5, none⟩) hl _)
              clear ha
              rw [t1']
              go_wp2_with fail
              go_meet
              case rel => exact ⟨_, hfin, hbf⟩
            · have t1' : decide (i < m) = false := decide_eq_false (by omega)
              rw [t1']
              go_wp2_with fail
              go_meet
              case rel => exact ⟨_, ka, ba⟩
          case rest =>
            obtain ⟨⟨ak, ae, aa0, aa1, ab0, ab1⟩, kc, bc⟩ := hcut
            have hkc := hid (hks.out.more bc.out)
            have hwA : w.heap.size < A := by
              have := (Array.getElem?_eq_some_iff.1 hks.out.of).1
              omega
            clear hks ka ba bc
            obtain ⟨⟨o0, o1, o2, o3, o4, o5⟩, _⟩ := acb_all kc.out
            by_cases hneg : ae < 0
            · have t2 : decide (ae < 0) = true := decide_eq_true hneg
              go_wp2_with fail
              go_roundw
              case rel => exact ⟨i + 1, R, by omega, by omega, by go_num, hkc⟩
              case measure => simp [intOf]; omega
            · have t2 : decide (ae < 0) = false := decide_eq_false hneg
              by_cases hbig : 7 < ae
              · have t3 : decide (ae > 7) = true := decide_eq_true hbig
                have t3' : decide (7 < ae) = true := decide_eq_true hbig
                go_wp2_with fail
                go_roundw
                case rel => exact ⟨i + 1, R, by omega, by omega, by go_num, hkc⟩
                case measure => simp [intOf]; omega
              · have t3 : decide (ae > 7) = false := decide_eq_false hbig
                have t3' : decide (7 < ae) = false := decide_eq_false hbig
                obtain ⟨e, rfl⟩ : ∃ e : Nat, ae = (e : Int) := ⟨ae.toNat, by omega⟩
                have he8 : e < 8 := by omega
                obtain ⟨sH, hsH⟩ : ∃ sH : Bool, sH = true ↔ In j R (2 * e) := by classical exact ⟨decide (In j R (2 * e)), by simp⟩
                have hhas := hid (has_ok hkc.out.ls.ta e sH he8 hsH)
                clear hneg hbig
                go_wp2_with fail
                refine hhas.out.mono ?_
                rintro x w4 ⟨rfl, b4⟩
                have hk4 := hid (hkc.out.more b4)
                have ka4 : Hid (w4.heap[A]? = some (acb ⟨ak, (e : Int), aa0, aa1, ab0, ab1⟩)) := hid ((b4.block _ (Array.getElem?_eq_some_iff.1 kc.out).1).trans kc.out)
                clear b4 hhas hkc kc o0 o1 o2 o3 o4 o5
                go_upto_if 82 with fail
                go_cut [15, 16, 17, 18, 19, 20, 21, 22] from 82 to 159 (fun _ _ _ _ _ _ _ _ wy => ∃ R', Hid (Ks w tb g j u11 ⟨qk, qe, qa0, qa1, qb0, qb1⟩ R' wy))
                case first =>
                  cases sH with
                  | true =>
                    have hi0 := hsH.1 rfl
                    clear hsH
                    have hi1 := (hk4.out.ls.tw e he8).1 hi0
                    have htn := hk4.out.ls.tn
                    have hlif := hid (lift_ok hk4.out.ls.ta e he8 hi0 hi1)
                    have hxi := hid (lift_flat htn hk4.out.ls.tw he8 hi0 hk4.out.xi)
                    have htw' := hid (htn.lift hk4.out.ls.tw (e := e)).2.1
                    obtain ⟨⟨o0, o1, o2, o3, o4, o5⟩, _⟩ := acb_all ka4.out
                    go_wp2_with fail
                    refine hlif.out.mono ?_
                    rintro x w5 ⟨rfl, t5, kp5⟩
                    obtain ⟨ad', cap', hrt, c0, c1⟩ := hk4.out.ls.rt
                    have hrt5 := hrt.al kp5.al
                    have hrl := hid (rlift_ok _ 8 j e R w5 hrt5 htn he8 hi0 hi1 (by decide) (by omega) (len16 htn))
                    have ka5 := kp_of ka4.out kp5
                    obtain ⟨⟨p0, p1, p2, p3, p4, p5⟩, _⟩ := acb_all ka5
                    have hg5 : w5.heap[g]? = some (.cells #[.int .i64 8, .slice ad' j cap'] 34 (0, 0)) := by
                      obtain ⟨ad0, cap0, _, h2, _⟩ := hk4.out.ls
                      obtain ⟨z0, z1, _, _⟩ := blk2 h2
                      rw [z1] at c1
                      cases c1
                      exact kp_pair h2 kp5 (by decide) (by decide) (by decide)
                    obtain ⟨g0, g1, _, _⟩ := blk2 hg5
                    replace hg5 := hid hg5
                    replace kp5 := hid kp5
                    replace t5 := hid t5
                    clear hrt hrt5 c0 c1 o0 o1 o2 o3 o4 o5 hlif ka5
                    go_wp2_with fail
                    refine hrl.out.mono ?_
                    rintro x w6 ⟨tv, rfl, ⟨lv, rfl, hnr⟩, b6⟩
                    obtain ⟨ad6, cap6, rfl, _⟩ := id hnr
                    have hg6 := (b6.block _ (Array.getElem?_eq_some_iff.1 hg5.out).1).trans hg5.out
                    obtain ⟨y0, y1, f0, f1⟩ := blk2 hg6
                    have hfin := hid (hk4.out.turn kp5.out t5.out b6 ⟨_, rfl, hnr⟩ htw'.out hxi.out)
                    clear hg6 hnr b6 g0 g1 p0 p1 p2 p3 p4 p5 hrl
                    go_wp2_with fail
                    go_meet
                    case rel => exact ⟨_, hfin⟩
                  | false =>
                    have hno : ¬ In j R (2 * e) := fun z => by have := hsH.2 z; cases this
                    have hno1 : ¬ In j R (2 * e + 1) := fun z => hno ((hk4.out.ls.tw e he8).2 z)
                    clear hsH
                    have htn := hid hk4.out.ls.tn
                    have htw := hid hk4.out.ls.tw
                    obtain ⟨wv, hwv⟩ : ∃ wv, wv = w4 := ⟨w4, rfl⟩
                    subst hwv
                    obtain ⟨ad', cap', hrt, c0, c1⟩ := hk4.out.ls.rt
                    have hcor := hid (fun c0 c1 y (hy : Below wv.heap.size wv y) => corner_ok _ 8 j R c0 c1 y (hrt.below hy) htn.out hV1 (by omega) (by decide))
                    have hcl : Hid (∀ y, Below wv.heap.size wv y → y.cell? ⟨g, 0, none⟩ = some (.int .i64 ((8 : Nat) : Int)) ∧ y.cell? ⟨g, 1, none⟩ = some (.slice ad' j cap') ∧ y.cell? ⟨A, 2, none⟩ = some (.int .i64 aa0) ∧ y.cell? ⟨A, 3, none⟩ = some (.int .i64 aa1) ∧ y.cell? ⟨A, 4, none⟩ = some (.int .i64 ab0) ∧ y.cell? ⟨A, 5, none⟩ = some (.int .i64 ab1)) := hid (fun y hy => by
                      obtain ⟨⟨_, _, h1⟩, _⟩ := acb_all ((hy.block _ (Array.getElem?_eq_some_iff.1 ka4.out).1).trans ka4.out)
                      exact ⟨(hy.cell (World.block_lt_of_cell? _ _ c0)).trans c0, (hy.cell (World.block_lt_of_cell? _ _ c1)).trans c1, h1⟩)
                    clear hrt c0 c1
                    go_upto_region 22 with fail
                    go_cut [15, 16] from 95 to 102 (fun s15 s16 wy => ∃ (P Q pu : Nat) (pb : Int) (qu : Nat) (qb : Int), s15 = .pointer (some ⟨P, 0, none⟩) ∧ s16 = .pointer (some ⟨Q, 0, none⟩) ∧ Hid (Below wv.heap.size wv wy ∧ pu < j ∧ Co j R (pu : Int) pb ∧ qu < j ∧ Co j R (qu : Int) qb ∧ wy.heap[P]? = some (.cells #[.int .i64 (pu : Int), .int .i64 pb] 23 (0, 0)) ∧ wy.heap[Q]? = some (.cells #[.int .i64 (qu : Int), .int .i64 qb] 23 (0, 0))))
                    case first =>
                      refine wp_region_noPanic ?_
                      refine wp_region_held_drew (S := fun y => Below wv.heap.size wv y) (by kernel_rfl) (Below.refl _ _).drew (fun hHeld => ?_)
                      refine takeH (i := 0) (v := ?_) (a' := ?_) ({ dst := some 95, op := Op.load 34 (Operand.tmp 10), type := 34, pos := "law.go:164", after := #[], guard := none }) rfl (by kernel_rfl) (by kernel_rfl) (by kernel_rfl) (fun _ _ _ h => h) (by rfl) ?_ (by assumption) ?_ ?_
                      rotate_left 2
                      · (intro w' hSw; obtain ⟨q0, q1, q2, q3, q4, q5⟩ := hcl.out w' hSw; clear hSw; go_simp; try with_reducible rfl)
                      · (simp only [Act.put, List.setIfInBounds_toArray, List.set_cons_zero, List.set_cons_succ]; try rfl)
                      refine takeH (i := 1) (v := ?_) (a' := ?_) ({ dst := some 96, op := Op.fieldAddr 25 (Operand.tmp 14) 2, type := 0, pos := "law.go:164", after := #[], guard := none }) rfl (by kernel_rfl) (by kernel_rfl) (by kernel_rfl) (fun _ _ _ h => h) (by rfl) ?_ (by assumption) ?_ ?_
                      rotate_left 2
                      · (intro w' hSw; obtain ⟨q0, q1, q2, q3, q4, q5⟩ := hcl.out w' hSw; clear hSw; go_simp; try with_reducible rfl)
                      · (simp only [Act.put, List.setIfInBounds_toArray, List.set_cons_zero, List.set_cons_succ]; try rfl)
                      refine takeH (i := 2) (v := ?_) (a' := ?_) ({ dst := some 97, op := Op.load 23 (Operand.tmp 96), type := 23, pos := "law.go:164", after := #[{ on := 1, ground := Ground.data }], guard := none }) rfl (by kernel_rfl) (by kernel_rfl) (by kernel_rfl) (fun _ _ _ h => h) (by rfl) ?_ (by assumption) ?_ ?_
                      rotate_left 2
                      · (intro w' hSw; obtain ⟨q0, q1, q2, q3, q4, q5⟩ := hcl.out w' hSw; clear hSw; go_simp; try with_reducible rfl)
                      · (simp only [Act.put, List.setIfInBounds_toArray, List.set_cons_zero, List.set_cons_succ]; try rfl)
                      refine takeH (i := 4) (v := ?_) (a' := ?_) ({ dst := some 99, op := Op.load 34 (Operand.tmp 10), type := 34, pos := "law.go:164", after := #[], guard := none }) rfl (by kernel_rfl) (by kernel_rfl) (by kernel_rfl) (fun _ _ _ h => h) (by rfl) ?_ (by assumption) ?_ ?_
                      rotate_left 2
                      · (intro w' hSw; obtain ⟨q0, q1, q2, q3, q4, q5⟩ := hcl.out w' hSw; clear hSw; go_simp; try with_reducible rfl)
                      · (simp only [Act.put, List.setIfInBounds_toArray, List.set_cons_zero, List.set_cons_succ]; try rfl)
                      refine takeH (i := 5) (v := ?_) (a' := ?_) ({ dst := some 100, op := Op.fieldAddr 25 (Operand.tmp 14) 3, type := 0, pos := "law.go:164", after := #[], guard := none }) rfl (by kernel_rfl) (by kernel_rfl) (by kernel_rfl) (fun _ _ _ h => h) (by rfl) ?_ (by assumption) ?_ ?_
                      rotate_left 2
                      · (intro w' hSw; obtain ⟨q0, q1, q2, q3, q4, q5⟩ := hcl.out w' hSw; clear hSw; go_simp; try with_reducible rfl)
                      · (simp only [Act.put, List.setIfInBounds_toArray, List.set_cons_zero, List.set_cons_succ]; try rfl)
                      refine takeH (i := 6) (v := ?_) (a' := ?_) ({ dst := some 101, op := Op.load 23 (Operand.tmp 100), type := 23, pos := "law.go:164", after := #[{ on := 5, ground := Ground.data }], guard := none }) rfl (by kernel_rfl) (by kernel_rfl) (by kernel_rfl) (fun _ _ _ h => h) (by rfl) ?_ (by assumption) ?_ ?_
                      rotate_left 2
                      · (intro w' hSw; obtain ⟨q0, q1, q2, q3, q4, q5⟩ := hcl.out w' hSw; clear hSw; go_simp; try with_reducible rfl)
                      · (simp only [Act.put, List.setIfInBounds_toArray, List.set_cons_zero, List.set_cons_succ]; try rfl)
                      have hdk0 : Hid (Below wv.heap.size wv wv.drew) := hid (Below.refl _ _).drew
                      clear hHeld
                      generalize wv.drew = y0 at hdk0 ⊢
                      refine wpAnyH_ready (rs := [3, 8, 9]) (by kernel_rfl) (by simp) ?_
                      refine (AllReadyH.cons (o := { dst := some 98, op := Op.call { callee := Callee.value (Operand.func 10), args := #[Operand.tmp 95, Operand.tmp 97, Operand.const (Value.bool false)], argTypes := #[34, 23, 4] }, type := 23, pos := "law.go:164", after := #[{ on := 0, ground := Ground.data }, { on := 2, ground := Ground.data }], guard := none }) rfl (fun K hK => ?_) (AllReadyH.cons (o := { dst := some 15, op := Op.alloc 23, type := 0, pos := "law.go:164", after := #[], guard := none }) rfl (fun K hK => ?_) (AllReadyH.cons (o := { dst := some 16, op := Op.alloc 23, type := 0, pos := "law.go:164", after := #[], guard := none }) rfl (fun K hK => ?_) AllReadyH.nil)))
                      · skip
                        go_simp
                        refine (hcor.out _ _ y0 hdk0.out).mono ?_
                        rintro x y1 ⟨pu, pb, rfl, hpu, hpc, b2⟩
                        replace hpc := hid hpc
                        have hdk1 : Hid (Below wv.heap.size wv y1) := hid (hdk0.out.trans (b2.mono hdk0.out.size))
                        clear b2
                        try go_wp2_with fail
                        refine hK.out _ _ hdk1.out (fun hHeld => ?_)
                        clear hK K hHeld
                        try simp only [Act.put, List.setIfInBounds_toArray, List.set_cons_zero, List.set_cons_succ]
                        refine wpAnyH_ready (rs := [7, 8, 9]) (by kernel_rfl) (by simp) ?_
                        refine (AllReadyH.cons (o := { dst := some 102, op := Op.call { callee := Callee.value (Operand.func 10), args := #[Operand.tmp 99, Operand.tmp 101, Operand.const (Value.bool false)], argTypes := #[34, 23, 4] }, type := 23, pos := "law.go:164", after := #[{ on := 4, ground := Ground.data }, { on := 6, ground := Ground.data }, { on := 3, ground := Ground.chain }], guard := none }) rfl (fun K hK => ?_) (AllReadyH.cons (o := { dst := some 15, op := Op.alloc 23, type := 0, pos := "law.go:164", after := #[], guard := none }) rfl (fun K hK => ?_) (AllReadyH.cons (o := { dst := some 16, op := Op.alloc 23, type := 0, pos := "law.go:164", after := #[], guard := none }) rfl (fun K hK => ?_) AllReadyH.nil)))
                        · skip
                          go_simp
                          refine (hcor.out _ _ y1 hdk1.out).mono ?_
                          rintro x y2 ⟨qu, qb, rfl, hqu, hqc, b2⟩
                          replace hqc := hid hqc
                          have hdk2 : Hid (Below wv.heap.size wv y2) := hid (hdk1.out.trans (b2.mono hdk1.out.size))
                          clear b2
                          try go_wp2_with fail
                          refine hK.out _ _ hdk2.out (fun hHeld => ?_)
                          clear hK K hHeld
                          try simp only [Act.put, List.setIfInBounds_toArray, List.set_cons_zero, List.set_cons_succ]
                          refine wpAnyH_ready (rs := [8, 9]) (by kernel_rfl) (by simp) ?_
                          refine (AllReadyH.cons (o := { dst := some 15, op := Op.alloc 23, type := 0, pos := "law.go:164", after := #[], guard := none }) rfl (fun K hK => ?_) (AllReadyH.cons (o := { dst := some 16, op := Op.alloc 23, type := 0, pos := "law.go:164", after := #[], guard := none }) rfl (fun K hK => ?_) AllReadyH.nil))
                          · skip
                            go_simp
                            refine hK.out _ _ (hdk2.out.alloc hdk2.out.size _) (fun hHeld => ?_)
                            clear hK K hHeld
                            try simp only [Act.put, List.setIfInBounds_toArray, List.set_cons_zero, List.set_cons_succ]
                            obtain ⟨y3, hy⟩ : ∃ y, y2.alloc (.cells #[.int .i64 0, .int .i64 0] 23) = y := ⟨_, rfl⟩
                            have hdk3 : Hid (Below wv.heap.size wv y3) := by rw [← hy]; exact hid (hdk2.out.alloc hdk2.out.size _)
                            have hP3 : Hid (y3.heap[y2.heap.size]? = some (.cells #[.int .i64 0, .int .i64 0] 23 (0, 0))) := by rw [← hy]; exact hid (heap_alloc_new _ _)
                            have hlP : wv.heap.size ≤ y2.heap.size := hdk2.out.size
                            rw [hy]
                            clear hy
                            refine wpAnyH_ready (rs := [9]) (by kernel_rfl) (by simp) ?_
                            refine (AllReadyH.cons (o := { dst := some 16, op := Op.alloc 23, type := 0, pos := "law.go:164", after := #[], guard := none }) rfl (fun K hK => ?_) AllReadyH.nil)
                            go_simp
                            refine hK.out _ _ (hdk3.out.alloc hdk3.out.size _) (fun hHeld => ?_)
                            clear hK K hHeld
                            try simp only [Act.put, List.setIfInBounds_toArray, List.set_cons_zero, List.set_cons_succ]
                            obtain ⟨y4, hy⟩ : ∃ y, y3.alloc (.cells #[.int .i64 0, .int .i64 0] 23) = y := ⟨_, rfl⟩
                            have hdk4 : Hid (Below wv.heap.size wv y4) := by rw [← hy]; exact hid (hdk3.out.alloc hdk3.out.size _)
                            have hQ4 : Hid (y4.heap[y3.heap.size]? = some (.cells #[.int .i64 0, .int .i64 0] 23 (0, 0))) := by rw [← hy]; exact hid (heap_alloc_new _ _)
                            have hlQ : wv.heap.size ≤ y3.heap.size := hdk3.out.size
                            have hP4 : Hid (y4.heap[y2.heap.size]? = some (.cells #[.int .i64 0, .int .i64 0] 23 (0, 0))) := by rw [← hy]; exact hid (al_keep hP3.out)
                            have hPQ : y2.heap.size ≠ y3.heap.size := by have := (Array.getElem?_eq_some_iff.1 hP3.out).1; omega
                            rw [hy]
                            clear hy
                            refine wpAnyH_ready (rs := [10]) (by kernel_rfl) (by simp) ?_
                            refine (AllReadyH.cons (o := { dst := none, op := Op.store 23 (Operand.tmp 15) (Operand.tmp 98), type := 0, pos := "law.go:164", after := #[{ on := 8, ground := Ground.data }, { on := 3, ground := Ground.data }, { on := 7, ground := Ground.chain }, { on := 0, ground := Ground.phase }, { on := 1, ground := Ground.phase }, { on := 2, ground := Ground.phase }, { on := 3, ground := Ground.phase }, { on := 4, ground := Ground.textOnly Departure.lateStores }, { on := 5, ground := Ground.textOnly Departure.lateStores }, { on := 6, ground := Ground.textOnly Departure.lateStores }, { on := 7, ground := Ground.textOnly Departure.lateStoresUnsure }, { on := 8, ground := Ground.phase }, { on := 9, ground := Ground.phase }], guard := none }) rfl (fun K hK => ?_) AllReadyH.nil)
                            obtain ⟨z1, z2, z3, z4⟩ := blk2 hP4.out
                            go_simp
                            try go_wp2_with fail
                            refine hK.out _ _ (below2 hdk4.out hlP _ _) (fun hHeld => ?_)
                            clear hK K hHeld z1 z2 z3 z4
                            try simp only [Act.put, List.setIfInBounds_toArray, List.set_cons_zero, List.set_cons_succ]
                            obtain ⟨y5, hy⟩ : ∃ y, (y4.setCell ⟨y2.heap.size, 0, none⟩ (.int .i64 (pu : Int))).setCell ⟨y2.heap.size, 1, none⟩ (.int .i64 pb) = y := ⟨_, rfl⟩
                            have hdk5 : Hid (Below wv.heap.size wv y5) := by rw [← hy]; exact hid (below2 hdk4.out hlP _ _)
                            have hP5 : Hid (y5.heap[y2.heap.size]? = some (.cells #[.int .i64 (pu : Int), .int .i64 pb] 23 (0, 0))) := by rw [← hy]; exact hid (set2_block hP4.out _ _)
                            have hQ5 : Hid (y5.heap[y3.heap.size]? = some (.cells #[.int .i64 0, .int .i64 0] 23 (0, 0))) := by rw [← hy, Below.heap_setCell _ _ _ _ (by show y3.heap.size ≠ y2.heap.size; omega), Below.heap_setCell _ _ _ _ (by show y3.heap.size ≠ y2.heap.size; omega)]; exact hQ4
                            rw [hy]
                            clear hy
                            refine wpAnyH_ready (rs := [11]) (by kernel_rfl) (by simp) ?_
                            refine (AllReadyH.cons (o := { dst := none, op := Op.store 23 (Operand.tmp 16) (Operand.tmp 102), type := 0, pos := "law.go:164", after := #[{ on := 9, ground := Ground.data }, { on := 7, ground := Ground.data }, { on := 10, ground := Ground.chain }, { on := 0, ground := Ground.phase }, { on := 1, ground := Ground.phase }, { on := 2, ground := Ground.phase }, { on := 3, ground := Ground.phase }, { on := 4, ground := Ground.phase }, { on := 5, ground := Ground.phase }, { on := 6, ground := Ground.phase }, { on := 7, ground := Ground.phase }, { on := 8, ground := Ground.phase }, { on := 9, ground := Ground.phase }, { on := 10, ground := Ground.phase }], guard := none }) rfl (fun K hK => ?_) AllReadyH.nil)
                            obtain ⟨z1, z2, z3, z4⟩ := blk2 hQ5.out
                            go_simp
                            try go_wp2_with fail
                            refine hK.out _ _ (below2 hdk5.out hlQ _ _) (fun hHeld => ?_)
                            clear hK K hHeld z1 z2 z3 z4
                            try simp only [Act.put, List.setIfInBounds_toArray, List.set_cons_zero, List.set_cons_succ]
                            obtain ⟨y6, hy⟩ : ∃ y, (y5.setCell ⟨y3.heap.size, 0, none⟩ (.int .i64 (qu : Int))).setCell ⟨y3.heap.size, 1, none⟩ (.int .i64 qb) = y := ⟨_, rfl⟩
                            have hdk6 : Hid (Below wv.heap.size wv y6) := by rw [← hy]; exact hid (below2 hdk5.out hlQ _ _)
                            have hQ6 : Hid (y6.heap[y3.heap.size]? = some (.cells #[.int .i64 (qu : Int), .int .i64 qb] 23 (0, 0))) := by rw [← hy]; exact hid (set2_block hQ5.out _ _)
                            have hP6 : Hid (y6.heap[y2.heap.size]? = some (.cells #[.int .i64 (pu : Int), .int .i64 pb] 23 (0, 0))) := by rw [← hy, Below.heap_setCell _ _ _ _ (by show y2.heap.size ≠ y3.heap.size; omega), Below.heap_setCell _ _ _ _ (by show y2.heap.size ≠ y3.heap.size; omega)]; exact hP5
                            rw [hy]
                            clear hy
                            refine wpAnyH_done (by kernel_rfl) ?_ _
                            refine NoPanic.normal ?_
                            go_wp2_with fail
                            go_meet
                            case rel => exact ⟨_, _, pu, pb, qu, qb, rfl, rfl, hdk6.out, hpu, hpc, hqu, hqc, hP6.out, hQ6.out⟩
                          · skip
                            go_simp
                            refine hK.out _ _ (hdk2.out.alloc hdk2.out.size _) (fun hHeld => ?_)
                            clear hK K hHeld
                            try simp only [Act.put, List.setIfInBounds_toArray, List.set_cons_zero, List.set_cons_succ]
                            obtain ⟨y7, hy⟩ : ∃ y, y2.alloc (.cells #[.int .i64 0, .int .i64 0] 23) = y := ⟨_, rfl⟩
                            have hdk7 : Hid (Below wv.heap.size wv y7) := by rw [← hy]; exact hid (hdk2.out.alloc hdk2.out.size _)
                            have hQ7 : Hid (y7.heap[y2.heap.size]? = some (.cells #[.int .i64 0, .int .i64 0] 23 (0, 0))) := by rw [← hy]; exact hid (heap_alloc_new _ _)
                            have hlQ : wv.heap.size ≤ y2.heap.size := hdk2.out.size
                            rw [hy]
                            clear hy
                            refine wpAnyH_ready (rs := [8]) (by kernel_rfl) (by simp) ?_
                            refine (AllReadyH.cons (o := { dst := some 15, op := Op.alloc 23, type := 0, pos := "law.go:164", after := #[], guard := none }) rfl (fun K hK => ?_) AllReadyH.nil)
                            go_simp
                            refine hK.out _ _ (hdk7.out.alloc hdk7.out.size _) (fun hHeld => ?_)
                            clear hK K hHeld
                            try simp only [Act.put, List.setIfInBounds_toArray, List.set_cons_zero, List.set_cons_succ]
                            obtain ⟨y8, hy⟩ : ∃ y, y7.alloc (.cells #[.int .i64 0, .int .i64 0] 23) = y := ⟨_, rfl⟩
                            have hdk8 : Hid (Below wv.heap.size wv y8) := by rw [← hy]; exact hid (hdk7.out.alloc hdk7.out.size _)
                            have hP8 : Hid (y8.heap[y7.heap.size]? = some (.cells #[.int .i64 0, .int .i64 0] 23 (0, 0))) := by rw [← hy]; exact hid (heap_alloc_new _ _)
                            have hlP : wv.heap.size ≤ y7.heap.size := hdk7.out.size
                            have hQ8 : Hid (y8.heap[y2.heap.size]? = some (.cells #[.int .i64 0, .int .i64 0] 23 (0, 0))) := by rw [← hy]; exact hid (al_keep hQ7.out)
                            have hPQ : y2.heap.size ≠ y7.heap.size := by have := (Array.getElem?_eq_some_iff.1 hQ7.out).1; omega
                            rw [hy]
                            clear hy
                            refine wpAnyH_ready (rs := [10]) (by kernel_rfl) (by simp) ?_
                            refine (AllReadyH.cons (o := { dst := none, op := Op.store 23 (Operand.tmp 15) (Operand.tmp 98), type := 0, pos := "law.go:164", after := #[{ on := 8, ground := Ground.data }, { on := 3, ground := Ground.data }, { on := 7, ground := Ground.chain }, { on := 0, ground := Ground.phase }, { on := 1, ground := Ground.phase }, { on := 2, ground := Ground.phase }, { on := 3, ground := Ground.phase }, { on := 4, ground := Ground.textOnly Departure.lateStores }, { on := 5, ground := Ground.textOnly Departure.lateStores }, { on := 6, ground := Ground.textOnly Departure.lateStores }, { on := 7, ground := Ground.textOnly Departure.lateStoresUnsure }, { on := 8, ground := Ground.phase }, { on := 9, ground := Ground.phase }], guard := none }) rfl (fun K hK => ?_) AllReadyH.nil)
                            obtain ⟨z1, z2, z3, z4⟩ := blk2 hP8.out
                            go_simp
                            try go_wp2_with fail
                            refine hK.out _ _ (below2 hdk8.out hlP _ _) (fun hHeld => ?_)
                            clear hK K hHeld z1 z2 z3 z4
                            try simp only [Act.put, List.setIfInBounds_toArray, List.set_cons_zero, List.set_cons_succ]
                            obtain ⟨y9, hy⟩ : ∃ y, (y8.setCell ⟨y7.heap.size, 0, none⟩ (.int .i64 (pu : Int))).setCell ⟨y7.heap.size, 1, none⟩ (.int .i64 pb) = y := ⟨_, rfl⟩
                            have hdk9 : Hid (Below wv.heap.size wv y9) := by rw [← hy]; exact hid (below2 hdk8.out hlP _ _)
                            have hP9 : Hid (y9.heap[y7.heap.size]? = some (.cells #[.int .i64 (pu : Int), .int .i64 pb] 23 (0, 0))) := by rw [← hy]; exact hid (set2_block hP8.out _ _)
                            have hQ9 : Hid (y9.heap[y2.heap.size]? = some (.cells #[.int .i64 0, .int .i64 0] 23 (0, 0))) := by rw [← hy, Below.heap_setCell _ _ _ _ (by show y2.heap.size ≠ y7.heap.size; omega), Below.heap_setCell _ _ _ _ (by show y2.heap.size ≠ y7.heap.size; omega)]; exact hQ8
                            rw [hy]
                            clear hy
                            refine wpAnyH_ready (rs := [11]) (by kernel_rfl) (by simp) ?_
                            refine (AllReadyH.cons (o := { dst := none, op := Op.store 23 (Operand.tmp 16) (Operand.tmp 102), type := 0, pos := "law.go:164", after := #[{ on := 9, ground := Ground.data }, { on := 7, ground := Ground.data }, { on := 10, ground := Ground.chain }, { on := 0, ground := Ground.phase }, { on := 1, ground := Ground.phase }, { on := 2, ground := Ground.phase }, { on := 3, ground := Ground.phase }, { on := 4, ground := Ground.phase }, { on := 5, ground := Ground.phase }, { on := 6, ground := Ground.phase }, { on := 7, ground := Ground.phase }, { on := 8, ground := Ground.phase }, { on := 9, ground := Ground.phase }, { on := 10, ground := Ground.phase }], guard := none }) rfl (fun K hK => ?_) AllReadyH.nil)
                            obtain ⟨z1, z2, z3, z4⟩ := blk2 hQ9.out
                            go_simp
                            try go_wp2_with fail
                            refine hK.out _ _ (below2 hdk9.out hlQ _ _) (fun hHeld => ?_)
                            clear hK K hHeld z1 z2 z3 z4
                            try simp only [Act.put, List.setIfInBounds_toArray, List.set_cons_zero, List.set_cons_succ]
                            obtain ⟨y10, hy⟩ : ∃ y, (y9.setCell ⟨y2.heap.size, 0, none⟩ (.int .i64 (qu : Int))).setCell ⟨y2.heap.size, 1, none⟩ (.int .i64 qb) = y := ⟨_, rfl⟩
                            have hdk10 : Hid (Below wv.heap.size wv y10) := by rw [← hy]; exact hid (below2 hdk9.out hlQ _ _)
                            have hQ10 : Hid (y10.heap[y2.heap.size]? = some (.cells #[.int .i64 (qu : Int), .int .i64 qb] 23 (0, 0))) := by rw [← hy]; exact hid (set2_block hQ9.out _ _)
                            have hP10 : Hid (y10.heap[y7.heap.size]? = some (.cells #[.int .i64 (pu : Int), .int .i64 pb] 23 (0, 0))) := by rw [← hy, Below.heap_setCell _ _ _ _ (by show y7.heap.size ≠ y2.heap.size; omega), Below.heap_setCell _ _ _ _ (by show y7.heap.size ≠ y2.heap.size; omega)]; exact hP9
                            rw [hy]
                            clear hy
                            refine wpAnyH_done (by kernel_rfl) ?_ _
                            refine NoPanic.normal ?_
                            go_wp2_with fail
                            go_meet
                            case rel => exact ⟨_, _, pu, pb, qu, qb, rfl, rfl, hdk10.out, hpu, hpc, hqu, hqc, hP10.out, hQ10.out⟩
                        · skip
                          go_simp
                          refine hK.out _ _ (hdk1.out.alloc hdk1.out.size _) (fun hHeld => ?_)
                          clear hK K hHeld
                          try simp only [Act.put, List.setIfInBounds_toArray, List.set_cons_zero, List.set_cons_succ]
                          obtain ⟨y11, hy⟩ : ∃ y, y1.alloc (.cells #[.int .i64 0, .int .i64 0] 23) = y := ⟨_, rfl⟩
                          have hdk11 : Hid (Below wv.heap.size wv y11) := by rw [← hy]; exact hid (hdk1.out.alloc hdk1.out.size _)
                          have hP11 : Hid (y11.heap[y1.heap.size]? = some (.cells #[.int .i64 0, .int .i64 0] 23 (0, 0))) := by rw [← hy]; exact hid (heap_alloc_new _ _)
                          have hlP : wv.heap.size ≤ y1.heap.size := hdk1.out.size
                          rw [hy]
                          clear hy
                          refine wpAnyH_ready (rs := [7, 9]) (by kernel_rfl) (by simp) ?_
                          refine (AllReadyH.cons (o := { dst := some 102, op := Op.call { callee := Callee.value (Operand.func 10), args := #[Operand.tmp 99, Operand.tmp 101, Operand.const (Value.bool false)], argTypes := #[34, 23, 4] }, type := 23, pos := "law.go:164", after := #[{ on := 4, ground := Ground.data }, { on := 6, ground := Ground.data }, { on := 3, ground := Ground.chain }], guard := none }) rfl (fun K hK => ?_) (AllReadyH.cons (o := { dst := some 16, op := Op.alloc 23, type := 0, pos := "law.go:164", after := #[], guard := none }) rfl (fun K hK => ?_) AllReadyH.nil))
                          · skip
                            go_simp
                            refine (hcor.out _ _ y11 hdk11.out).mono ?_
                            rintro x y12 ⟨qu, qb, rfl, hqu, hqc, b2⟩
                            replace hqc := hid hqc
                            have hdk12 : Hid (Below wv.heap.size wv y12) := hid (hdk11.out.trans (b2.mono hdk11.out.size))
                            have hP12 := hid ((b2.block _ (Array.getElem?_eq_some_iff.1 hP11.out).1).trans hP11.out)
                            clear b2
                            try go_wp2_with fail
                            refine hK.out _ _ hdk12.out (fun hHeld => ?_)
                            clear hK K hHeld
                            try simp only [Act.put, List.setIfInBounds_toArray, List.set_cons_zero, List.set_cons_succ]
                            refine wpAnyH_ready (rs := [9]) (by kernel_rfl) (by simp) ?_
                            refine (AllReadyH.cons (o := { dst := some 16, op := Op.alloc 23, type := 0, pos := "law.go:164", after := #[], guard := none }) rfl (fun K hK => ?_) AllReadyH.nil)
                            go_simp
                            refine hK.out _ _ (hdk12.out.alloc hdk12.out.size _) (fun hHeld => ?_)
                            clear hK K hHeld
                            try simp only [Act.put, List.setIfInBounds_toArray, List.set_cons_zero, List.set_cons_succ]
                            obtain ⟨y13, hy⟩ : ∃ y, y12.alloc (.cells #[.int .i64 0, .int .i64 0] 23) = y := ⟨_, rfl⟩
                            have hdk13 : Hid (Below wv.heap.size wv y13) := by rw [← hy]; exact hid (hdk12.out.alloc hdk12.out.size _)
                            have hQ13 : Hid (y13.heap[y12.heap.size]? = some (.cells #[.int .i64 0, .int .i64 0] 23 (0, 0))) := by rw [← hy]; exact hid (heap_alloc_new _ _)
                            have hlQ : wv.heap.size ≤ y12.heap.size := hdk12.out.size
                            have hP13 : Hid (y13.heap[y1.heap.size]? = some (.cells #[.int .i64 0, .int .i64 0] 23 (0, 0))) := by rw [← hy]; exact hid (al_keep hP12.out)
                            have hPQ : y1.heap.size ≠ y12.heap.size := by have := (Array.getElem?_eq_some_iff.1 hP12.out).1; omega
                            rw [hy]
                            clear hy
                            refine wpAnyH_ready (rs := [10]) (by kernel_rfl) (by simp) ?_
                            refine (AllReadyH.cons (o := { dst := none, op := Op.store 23 (Operand.tmp 15) (Operand.tmp 98), type := 0, pos := "law.go:164", after := #[{ on := 8, ground := Ground.data }, { on := 3, ground := Ground.data }, { on := 7, ground := Ground.chain }, { on := 0, ground := Ground.phase }, { on := 1, ground := Ground.phase }, { on := 2, ground := Ground.phase }, { on := 3, ground := Ground.phase }, { on := 4, ground := Ground.textOnly Departure.lateStores }, { on := 5, ground := Ground.textOnly Departure.lateStores }, { on := 6, ground := Ground.textOnly Departure.lateStores }, { on := 7, ground := Ground.textOnly Departure.lateStoresUnsure }, { on := 8, ground := Ground.phase }, { on := 9, ground := Ground.phase }], guard := none }) rfl (fun K hK => ?_) AllReadyH.nil)
                            obtain ⟨z1, z2, z3, z4⟩ := blk2 hP13.out
                            go_simp
                            try go_wp2_with fail
                            refine hK.out _ _ (below2 hdk13.out hlP _ _) (fun hHeld => ?_)
                            clear hK K hHeld z1 z2 z3 z4
                            try simp only [Act.put, List.setIfInBounds_toArray, List.set_cons_zero, List.set_cons_succ]
                            obtain ⟨y14, hy⟩ : ∃ y, (y13.setCell ⟨y1.heap.size, 0, none⟩ (.int .i64 (pu : Int))).setCell ⟨y1.heap.size, 1, none⟩ (.int .i64 pb) = y := ⟨_, rfl⟩
                            have hdk14 : Hid (Below wv.heap.size wv y14) := by rw [← hy]; exact hid (below2 hdk13.out hlP _ _)
                            have hP14 : Hid (y14.heap[y1.heap.size]? = some (.cells #[.int .i64 (pu : Int), .int .i64 pb] 23 (0, 0))) := by rw [← hy]; exact hid (set2_block hP13.out _ _)
                            have hQ14 : Hid (y14.heap[y12.heap.size]? = some (.cells #[.int .i64 0, .int .i64 0] 23 (0, 0))) := by rw [← hy, Below.heap_setCell _ _ _ _ (by show y12.heap.size ≠ y1.heap.size; omega), Below.heap_setCell _ _ _ _ (by show y12.heap.size ≠ y1.heap.size; omega)]; exact hQ13
                            rw [hy]
                            clear hy
                            refine wpAnyH_ready (rs := [11]) (by kernel_rfl) (by simp) ?_
                            refine (AllReadyH.cons (o := { dst := none, op := Op.store 23 (Operand.tmp 16) (Operand.tmp 102), type := 0, pos := "law.go:164", after := #[{ on := 9, ground := Ground.data }, { on := 7, ground := Ground.data }, { on := 10, ground := Ground.chain }, { on := 0, ground := Ground.phase }, { on := 1, ground := Ground.phase }, { on := 2, ground := Ground.phase }, { on := 3, ground := Ground.phase }, { on := 4, ground := Ground.phase }, { on := 5, ground := Ground.phase }, { on := 6, ground := Ground.phase }, { on := 7, ground := Ground.phase }, { on := 8, ground := Ground.phase }, { on := 9, ground := Ground.phase }, { on := 10, ground := Ground.phase }], guard := none }) rfl (fun K hK => ?_) AllReadyH.nil)
                            obtain ⟨z1, z2, z3, z4⟩ := blk2 hQ14.out
                            go_simp
                            try go_wp2_with fail
                            refine hK.out _ _ (below2 hdk14.out hlQ _ _) (fun hHeld => ?_)
                            clear hK K hHeld z1 z2 z3 z4
                            try simp only [Act.put, List.setIfInBounds_toArray, List.set_cons_zero, List.set_cons_succ]
                            obtain ⟨y15, hy⟩ : ∃ y, (y14.setCell ⟨y12.heap.size, 0, none⟩ (.int .i64 (qu : Int))).setCell ⟨y12.heap.size, 1, none⟩ (.int .i64 qb) = y := ⟨_, rfl⟩
                            have hdk15 : Hid (Below wv.heap.size wv y15) := by rw [← hy]; exact hid (below2 hdk14.out hlQ _ _)
                            have hQ15 : Hid (y15.heap[y12.heap.size]? = some (.cells #[.int .i64 (qu : Int), .int .i64 qb] 23 (0, 0))) := by rw [← hy]; exact hid (set2_block hQ14.out _ _)
                            have hP15 : Hid (y15.heap[y1.heap.size]? = some (.cells #[.int .i64 (pu : Int), .int .i64 pb] 23 (0, 0))) := by rw [← hy, Below.heap_setCell _ _ _ _ (by show y1.heap.size ≠ y12.heap.size; omega), Below.heap_setCell _ _ _ _ (by show y1.heap.size ≠ y12.heap.size; omega)]; exact hP14
                            rw [hy]
                            clear hy
                            refine wpAnyH_done (by kernel_rfl) ?_ _
                            refine NoPanic.normal ?_
                            go_wp2_with fail
                            go_meet
                            case rel => exact ⟨_, _, pu, pb, qu, qb, rfl, rfl, hdk15.out, hpu, hpc, hqu, hqc, hP15.out, hQ15.out⟩
                          · skip
                            go_simp
                            refine hK.out _ _ (hdk11.out.alloc hdk11.out.size _) (fun hHeld => ?_)
                            clear hK K hHeld
                            try simp only [Act.put, List.setIfInBounds_toArray, List.set_cons_zero, List.set_cons_succ]
                            obtain ⟨y16, hy⟩ : ∃ y, y11.alloc (.cells #[.int .i64 0, .int .i64 0] 23) = y := ⟨_, rfl⟩
                            have hdk16 : Hid (Below wv.heap.size wv y16) := by rw [← hy]; exact hid (hdk11.out.alloc hdk11.out.size _)
                            have hQ16 : Hid (y16.heap[y11.heap.size]? = some (.cells #[.int .i64 0, .int .i64 0] 23 (0, 0))) := by rw [← hy]; exact hid (heap_alloc_new _ _)
                            have hlQ : wv.heap.size ≤ y11.heap.size := hdk11.out.size
                            have hP16 : Hid (y16.heap[y1.heap.size]? = some (.cells #[.int .i64 0, .int .i64 0] 23 (0, 0))) := by rw [← hy]; exact hid (al_keep hP11.out)
                            have hPQ : y1.heap.size ≠ y11.heap.size := by have := (Array.getElem?_eq_some_iff.1 hP11.out).1; omega
                            rw [hy]
                            clear hy
                            refine wpAnyH_ready (rs := [7]) (by kernel_rfl) (by simp) ?_
                            refine (AllReadyH.cons (o := { dst := some 102, op := Op.call { callee := Callee.value (Operand.func 10), args := #[Operand.tmp 99, Operand.tmp 101, Operand.const (Value.bool false)], argTypes := #[34, 23, 4] }, type := 23, pos := "law.go:164", after := #[{ on := 4, ground := Ground.data }, { on := 6, ground := Ground.data }, { on := 3, ground := Ground.chain }], guard := none }) rfl (fun K hK => ?_) AllReadyH.nil)
                            go_simp
                            refine (hcor.out _ _ y16 hdk16.out).mono ?_
                            rintro x y17 ⟨qu, qb, rfl, hqu, hqc, b2⟩
                            replace hqc := hid hqc
                            have hdk17 : Hid (Below wv.heap.size wv y17) := hid (hdk16.out.trans (b2.mono hdk16.out.size))
                            have hP17 := hid ((b2.block _ (Array.getElem?_eq_some_iff.1 hP16.out).1).trans hP16.out)
                            have hQ17 := hid ((b2.block _ (Array.getElem?_eq_some_iff.1 hQ16.out).1).trans hQ16.out)
                            clear b2
                            try go_wp2_with fail
                            refine hK.out _ _ hdk17.out (fun hHeld => ?_)
                            clear hK K hHeld
                            try simp only [Act.put, List.setIfInBounds_toArray, List.set_cons_zero, List.set_cons_succ]
                            refine wpAnyH_ready (rs := [10]) (by kernel_rfl) (by simp) ?_
                            refine (AllReadyH.cons (o := { dst := none, op := Op.store 23 (Operand.tmp 15) (Operand.tmp 98), type := 0, pos := "law.go:164", after := #[{ on := 8, ground := Ground.data }, { on := 3, ground := Ground.data }, { on := 7, ground := Ground.chain }, { on := 0, ground := Ground.phase }, { on := 1, ground := Ground.phase }, { on := 2, ground := Ground.phase }, { on := 3, ground := Ground.phase }, { on := 4, ground := Ground.textOnly Departure.lateStores }, { on := 5, ground := Ground.textOnly Departure.lateStores }, { on := 6, ground := Ground.textOnly Departure.lateStores }, { on := 7, ground := Ground.textOnly Departure.lateStoresUnsure }, { on := 8, ground := Ground.phase }, { on := 9, ground := Ground.phase }], guard := none }) rfl (fun K hK => ?_) AllReadyH.nil)
                            obtain ⟨z1, z2, z3, z4⟩ := blk2 hP17.out
                            go_simp
                            try go_wp2_with fail
                            refine hK.out _ _ (below2 hdk17.out hlP _ _) (fun hHeld => ?_)
                            clear hK K hHeld z1 z2 z3 z4
                            try simp only [Act.put, List.setIfInBounds_toArray, List.set_cons_zero, List.set_cons_succ]
                            obtain ⟨y18, hy⟩ : ∃ y, (y17.setCell ⟨y1.heap.size, 0, none⟩ (.int .i64 (pu : Int))).setCell ⟨y1.heap.size, 1, none⟩ (.int .i64 pb) = y := ⟨_, rfl⟩
                            have hdk18 : Hid (Below wv.heap.size wv y18) := by rw [← hy]; exact hid (below2 hdk17.out hlP _ _)
                            have hP18 : Hid (y18.heap[y1.heap.size]? = some (.cells #[.int .i64 (pu : Int), .int .i64 pb] 23 (0, 0))) := by rw [← hy]; exact hid (set2_block hP17.out _ _)
                            have hQ18 : Hid (y18.heap[y11.heap.size]? = some (.cells #[.int .i64 0, .int .i64 0] 23 (0, 0))) := by rw [← hy, Below.heap_setCell _ _ _ _ (by show y11.heap.size ≠ y1.heap.size; omega), Below.heap_setCell _ _ _ _ (by show y11.heap.size ≠ y1.heap.size; omega)]; exact hQ17
                            rw [hy]
                            clear hy
                            refine wpAnyH_ready (rs := [11]) (by kernel_rfl) (by simp) ?_
                            refine (AllReadyH.cons (o := { dst := none, op := Op.store 23 (Operand.tmp 16) (Operand.tmp 102), type := 0, pos := "law.go:164", after := #[{ on := 9, ground := Ground.data }, { on := 7, ground := Ground.data }, { on := 10, ground := Ground.chain }, { on := 0, ground := Ground.phase }, { on := 1, ground := Ground.phase }, { on := 2, ground := Ground.phase }, { on := 3, ground := Ground.phase }, { on := 4, ground := Ground.phase }, { on := 5, ground := Ground.phase }, { on := 6, ground := Ground.phase }, { on := 7, ground := Ground.phase }, { on := 8, ground := Ground.phase }, { on := 9, ground := Ground.phase }, { on := 10, ground := Ground.phase }], guard := none }) rfl (fun K hK => ?_) AllReadyH.nil)
                            obtain ⟨z1, z2, z3, z4⟩ := blk2 hQ18.out
                            go_simp
                            try go_wp2_with fail
                            refine hK.out _ _ (below2 hdk18.out hlQ _ _) (fun hHeld => ?_)
                            clear hK K hHeld z1 z2 z3 z4
                            try simp only [Act.put, List.setIfInBounds_toArray, List.set_cons_zero, List.set_cons_succ]
                            obtain ⟨y19, hy⟩ : ∃ y, (y18.setCell ⟨y11.heap.size, 0, none⟩ (.int .i64 (qu : Int))).setCell ⟨y11.heap.size, 1, none⟩ (.int .i64 qb) = y := ⟨_, rfl⟩
                            have hdk19 : Hid (Below wv.heap.size wv y19) := by rw [← hy]; exact hid (below2 hdk18.out hlQ _ _)
                            have hQ19 : Hid (y19.heap[y11.heap.size]? = some (.cells #[.int .i64 (qu : Int), .int .i64 qb] 23 (0, 0))) := by rw [← hy]; exact hid (set2_block hQ18.out _ _)
                            have hP19 : Hid (y19.heap[y1.heap.size]? = some (.cells #[.int .i64 (pu : Int), .int .i64 pb] 23 (0, 0))) := by rw [← hy, Below.heap_setCell _ _ _ _ (by show y1.heap.size ≠ y11.heap.size; omega), Below.heap_setCell _ _ _ _ (by show y1.heap.size ≠ y11.heap.size; omega)]; exact hP18
                            rw [hy]
                            clear hy
                            refine wpAnyH_done (by kernel_rfl) ?_ _
                            refine NoPanic.normal ?_
                            go_wp2_with fail
                            go_meet
                            case rel => exact ⟨_, _, pu, pb, qu, qb, rfl, rfl, hdk19.out, hpu, hpc, hqu, hqc, hP19.out, hQ19.out⟩
                        · skip
                          go_simp
                          refine hK.out _ _ (hdk1.out.alloc hdk1.out.size _) (fun hHeld => ?_)
                          clear hK K hHeld
                          try simp only [Act.put, List.setIfInBounds_toArray, List.set_cons_zero, List.set_cons_succ]
                          obtain ⟨y20, hy⟩ : ∃ y, y1.alloc (.cells #[.int .i64 0, .int .i64 0] 23) = y := ⟨_, rfl⟩
                          have hdk20 : Hid (Below wv.heap.size wv y20) := by rw [← hy]; exact hid (hdk1.out.alloc hdk1.out.size _)
                          have hQ20 : Hid (y20.heap[y1.heap.size]? = some (.cells #[.int .i64 0, .int .i64 0] 23 (0, 0))) := by rw [← hy]; exact hid (heap_alloc_new _ _)
                          have hlQ : wv.heap.size ≤ y1.heap.size := hdk1.out.size
                          rw [hy]
                          clear hy
                          refine wpAnyH_ready (rs := [7, 8]) (by kernel_rfl) (by simp) ?_
                          refine (AllReadyH.cons (o := { dst := some 102, op := Op.call { callee := Callee.value (Operand.func 10), args := #[Operand.tmp 99, Operand.tmp 101, Operand.const (Value.bool false)], argTypes := #[34, 23, 4] }, type := 23, pos := "law.go:164", after := #[{ on := 4, ground := Ground.data }, { on := 6, ground := Ground.data }, { on := 3, ground := Ground.chain }], guard := none }) rfl (fun K hK => ?_) (AllReadyH.cons (o := { dst := some 15, op := Op.alloc 23, type := 0, pos := "law.go:164", after := #[], guard := none }) rfl (fun K hK => ?_) AllReadyH.nil))
                          · skip
                            go_simp
                            refine (hcor.out _ _ y20 hdk20.out).mono ?_
                            rintro x y21 ⟨qu, qb, rfl, hqu, hqc, b2⟩
                            replace hqc := hid hqc
                            have hdk21 : Hid (Below wv.heap.size wv y21) := hid (hdk20.out.trans (b2.mono hdk20.out.size))
                            have hQ21 := hid ((b2.block _ (Array.getElem?_eq_some_iff.1 hQ20.out).1).trans hQ20.out)
                            clear b2
                            try go_wp2_with fail
                            refine hK.out _ _ hdk21.out (fun hHeld => ?_)
                            clear hK K hHeld
                            try simp only [Act.put, List.setIfInBounds_toArray, List.set_cons_zero, List.set_cons_succ]
                            refine wpAnyH_ready (rs := [8]) (by kernel_rfl) (by simp) ?_
                            refine (AllReadyH.cons (o := { dst := some 15, op := Op.alloc 23, type := 0, pos := "law.go:164", after := #[], guard := none }) rfl (fun K hK => ?_) AllReadyH.nil)
                            go_simp
                            refine hK.out _ _ (hdk21.out.alloc hdk21.out.size _) (fun hHeld => ?_)
                            clear hK K hHeld
                            try simp only [Act.put, List.setIfInBounds_toArray, List.set_cons_zero, List.set_cons_succ]
                            obtain ⟨y22, hy⟩ : ∃ y, y21.alloc (.cells #[.int .i64 0, .int .i64 0] 23) = y := ⟨_, rfl⟩
                            have hdk22 : Hid (Below wv.heap.size wv y22) := by rw [← hy]; exact hid (hdk21.out.alloc hdk21.out.size _)
                            have hP22 : Hid (y22.heap[y21.heap.size]? = some (.cells #[.int .i64 0, .int .i64 0] 23 (0, 0))) := by rw [← hy]; exact hid (heap_alloc_new _ _)
                            have hlP : wv.heap.size ≤ y21.heap.size := hdk21.out.size
                            have hQ22 : Hid (y22.heap[y1.heap.size]? = some (.cells #[.int .i64 0, .int .i64 0] 23 (0, 0))) := by rw [← hy]; exact hid (al_keep hQ21.out)
                            have hPQ : y1.heap.size ≠ y21.heap.size := by have := (Array.getElem?_eq_some_iff.1 hQ21.out).1; omega
                            rw [hy]
                            clear hy
                            refine wpAnyH_ready (rs := [10]) (by kernel_rfl) (by simp) ?_
                            refine (AllReadyH.cons (o := { dst := none, op := Op.store 23 (Operand.tmp 15) (Operand.tmp 98), type := 0, pos := "law.go:164", after := #[{ on := 8, ground := Ground.data }, { on := 3, ground := Ground.data }, { on := 7, ground := Ground.chain }, { on := 0, ground := Ground.phase }, { on := 1, ground := Ground.phase }, { on := 2, ground := Ground.phase }, { on := 3, ground := Ground.phase }, { on := 4, ground := Ground.textOnly Departure.lateStores }, { on := 5, ground := Ground.textOnly Departure.lateStores }, { on := 6, ground := Ground.textOnly Departure.lateStores }, { on := 7, ground := Ground.textOnly Departure.lateStoresUnsure }, { on := 8, ground := Ground.phase }, { on := 9, ground := Ground.phase }], guard := none }) rfl (fun K hK => ?_) AllReadyH.nil)
                            obtain ⟨z1, z2, z3, z4⟩ := blk2 hP22.out
                            go_simp
                            try go_wp2_with fail
                            refine hK.out _ _ (below2 hdk22.out hlP _ _) (fun hHeld => ?_)
                            clear hK K hHeld z1 z2 z3 z4
                            try simp only [Act.put, List.setIfInBounds_toArray, List.set_cons_zero, List.set_cons_succ]
                            obtain ⟨y23, hy⟩ : ∃ y, (y22.setCell ⟨y21.heap.size, 0, none⟩ (.int .i64 (pu : Int))).setCell ⟨y21.heap.size, 1, none⟩ (.int .i64 pb) = y := ⟨_, rfl⟩
                            have hdk23 : Hid (Below wv.heap.size wv y23) := by rw [← hy]; exact hid (below2 hdk22.out hlP _ _)
                            have hP23 : Hid (y23.heap[y21.heap.size]? = some (.cells #[.int .i64 (pu : Int), .int .i64 pb] 23 (0, 0))) := by rw [← hy]; exact hid (set2_block hP22.out _ _)
                            have hQ23 : Hid (y23.heap[y1.heap.size]? = some (.cells #[.int .i64 0, .int .i64 0] 23 (0, 0))) := by rw [← hy, Below.heap_setCell _ _ _ _ (by show y1.heap.size ≠ y21.heap.size; omega), Below.heap_setCell _ _ _ _ (by show y1.heap.size ≠ y21.heap.size; omega)]; exact hQ22
                            rw [hy]
                            clear hy
                            refine wpAnyH_ready (rs := [11]) (by kernel_rfl) (by simp) ?_
                            refine (AllReadyH.cons (o := { dst := none, op := Op.store 23 (Operand.tmp 16) (Operand.tmp 102), type := 0, pos := "law.go:164", after := #[{ on := 9, ground := Ground.data }, { on := 7, ground := Ground.data }, { on := 10, ground := Ground.chain }, { on := 0, ground := Ground.phase }, { on := 1, ground := Ground.phase }, { on := 2, ground := Ground.phase }, { on := 3, ground := Ground.phase }, { on := 4, ground := Ground.phase }, { on := 5, ground := Ground.phase }, { on := 6, ground := Ground.phase }, { on := 7, ground := Ground.phase }, { on := 8, ground := Ground.phase }, { on := 9, ground := Ground.phase }, { on := 10, ground := Ground.phase }], guard := none }) rfl (fun K hK => ?_) AllReadyH.nil)
                            obtain ⟨z1, z2, z3, z4⟩ := blk2 hQ23.out
                            go_simp
                            try go_wp2_with fail
                            refine hK.out _ _ (below2 hdk23.out hlQ _ _) (fun hHeld => ?_)
                            clear hK K hHeld z1 z2 z3 z4
                            try simp only [Act.put, List.setIfInBounds_toArray, List.set_cons_zero, List.set_cons_succ]
                            obtain ⟨y24, hy⟩ : ∃ y, (y23.setCell ⟨y1.heap.size, 0, none⟩ (.int .i64 (qu : Int))).setCell ⟨y1.heap.size, 1, none⟩ (.int .i64 qb) = y := ⟨_, rfl⟩
                            have hdk24 : Hid (Below wv.heap.size wv y24) := by rw [← hy]; exact hid (below2 hdk23.out hlQ _ _)
                            have hQ24 : Hid (y24.heap[y1.heap.size]? = some (.cells #[.int .i64 (qu : Int), .int .i64 qb] 23 (0, 0))) := by rw [← hy]; exact hid (set2_block hQ23.out _ _)
                            have hP24 : Hid (y24.heap[y21.heap.size]? = some (.cells #[.int .i64 (pu : Int), .int .i64 pb] 23 (0, 0))) := by rw [← hy, Below.heap_setCell _ _ _ _ (by show y21.heap.size ≠ y1.heap.size; omega), Below.heap_setCell _ _ _ _ (by show y21.heap.size ≠ y1.heap.size; omega)]; exact hP23
                            rw [hy]
                            clear hy
                            refine wpAnyH_done (by kernel_rfl) ?_ _
                            refine NoPanic.normal ?_
                            go_wp2_with fail
                            go_meet
                            case rel => exact ⟨_, _, pu, pb, qu, qb, rfl, rfl, hdk24.out, hpu, hpc, hqu, hqc, hP24.out, hQ24.out⟩
                          · skip
                            go_simp
                            refine hK.out _ _ (hdk20.out.alloc hdk20.out.size _) (fun hHeld => ?_)
                            clear hK K hHeld
                            try simp only [Act.put, List.setIfInBounds_toArray, List.set_cons_zero, List.set_cons_succ]
                            obtain ⟨y25, hy⟩ : ∃ y, y20.alloc (.cells #[.int .i64 0, .int .i64 0] 23) = y := ⟨_, rfl⟩
                            have hdk25 : Hid (Below wv.heap.size wv y25) := by rw [← hy]; exact hid (hdk20.out.alloc hdk20.out.size _)
                            have hP25 : Hid (y25.heap[y20.heap.size]? = some (.cells #[.int .i64 0, .int .i64 0] 23 (0, 0))) := by rw [← hy]; exact hid (heap_alloc_new _ _)
                            have hlP : wv.heap.size ≤ y20.heap.size := hdk20.out.size
                            have hQ25 : Hid (y25.heap[y1.heap.size]? = some (.cells #[.int .i64 0, .int .i64 0] 23 (0, 0))) := by rw [← hy]; exact hid (al_keep hQ20.out)
                            have hPQ : y1.heap.size ≠ y20.heap.size := by have := (Array.getElem?_eq_some_iff.1 hQ20.out).1; omega
                            rw [hy]
                            clear hy
                            refine wpAnyH_ready (rs := [7]) (by kernel_rfl) (by simp) ?_
                            refine (AllReadyH.cons (o := { dst := some 102, op := Op.call { callee := Callee.value (Operand.func 10), args := #[Operand.tmp 99, Operand.tmp 101, Operand.const (Value.bool false)], argTypes := #[34, 23, 4] }, type := 23, pos := "law.go:164", after := #[{ on := 4, ground := Ground.data }, { on := 6, ground := Ground.data }, { on := 3, ground := Ground.chain }], guard := none }) rfl (fun K hK => ?_) AllReadyH.nil)
                            go_simp
                            refine (hcor.out _ _ y25 hdk25.out).mono ?_
                            rintro x y26 ⟨qu, qb, rfl, hqu, hqc, b2⟩
                            replace hqc := hid hqc
                            have hdk26 : Hid (Below wv.heap.size wv y26) := hid (hdk25.out.trans (b2.mono hdk25.out.size))
                            have hP26 := hid ((b2.block _ (Array.getElem?_eq_some_iff.1 hP25.out).1).trans hP25.out)
                            have hQ26 := hid ((b2.block _ (Array.getElem?_eq_some_iff.1 hQ25.out).1).trans hQ25.out)
                            clear b2
                            try go_wp2_with fail
                            refine hK.out _ _ hdk26.out (fun hHeld => ?_)
                            clear hK K hHeld
                            try simp only [Act.put, List.setIfInBounds_toArray, List.set_cons_zero, List.set_cons_succ]
                            refine wpAnyH_ready (rs := [10]) (by kernel_rfl) (by simp) ?_
                            refine (AllReadyH.cons (o := { dst := none, op := Op.store 23 (Operand.tmp 15) (Operand.tmp 98), type := 0, pos := "law.go:164", after := #[{ on := 8, ground := Ground.data }, { on := 3, ground := Ground.data }, { on := 7, ground := Ground.chain }, { on := 0, ground := Ground.phase }, { on := 1, ground := Ground.phase }, { on := 2, ground := Ground.phase }, { on := 3, ground := Ground.phase }, { on := 4, ground := Ground.textOnly Departure.lateStores }, { on := 5, ground := Ground.textOnly Departure.lateStores }, { on := 6, ground := Ground.textOnly Departure.lateStores }, { on := 7, ground := Ground.textOnly Departure.lateStoresUnsure }, { on := 8, ground := Ground.phase }, { on := 9, ground := Ground.phase }], guard := none }) rfl (fun K hK => ?_) AllReadyH.nil)
                            obtain ⟨z1, z2, z3, z4⟩ := blk2 hP26.out
                            go_simp
                            try go_wp2_with fail
                            refine hK.out _ _ (below2 hdk26.out hlP _ _) (fun hHeld => ?_)
                            clear hK K hHeld z1 z2 z3 z4
                            try simp only [Act.put, List.setIfInBounds_toArray, List.set_cons_zero, List.set_cons_succ]
                            obtain ⟨y27, hy⟩ : ∃ y, (y26.setCell ⟨y20.heap.size, 0, none⟩ (.int .i64 (pu : Int))).setCell ⟨y20.heap.size, 1, none⟩ (.int .i64 pb) = y := ⟨_, rfl⟩
                            have hdk27 : Hid (Below wv.heap.size wv y27) := by rw [← hy]; exact hid (below2 hdk26.out hlP _ _)
                            have hP27 : Hid (y27.heap[y20.heap.size]? = some (.cells #[.int .i64 (pu : Int), .int .i64 pb] 23 (0, 0))) := by rw [← hy]; exact hid (set2_block hP26.out _ _)
                            have hQ27 : Hid (y27.heap[y1.heap.size]? = some (.cells #[.int .i64 0, .int .i64 0] 23 (0, 0))) := by rw [← hy, Below.heap_setCell _ _ _ _ (by show y1.heap.size ≠ y20.heap.size; omega), Below.heap_setCell _ _ _ _ (by show y1.heap.size ≠ y20.heap.size; omega)]; exact hQ26
                            rw [hy]
                            clear hy
                            refine wpAnyH_ready (rs := [11]) (by kernel_rfl) (by simp) ?_
                            refine (AllReadyH.cons (o := { dst := none, op := Op.store 23 (Operand.tmp 16) (Operand.tmp 102), type := 0, pos := "law.go:164", after := #[{ on := 9, ground := Ground.data }, { on := 7, ground := Ground.data }, { on := 10, ground := Ground.chain }, { on := 0, ground := Ground.phase }, { on := 1, ground := Ground.phase }, { on := 2, ground := Ground.phase }, { on := 3, ground := Ground.phase }, { on := 4, ground := Ground.phase }, { on := 5, ground := Ground.phase }, { on := 6, ground := Ground.phase }, { on := 7, ground := Ground.phase }, { on := 8, ground := Ground.phase }, { on := 9, ground := Ground.phase }, { on := 10, ground := Ground.phase }], guard := none }) rfl (fun K hK => ?_) AllReadyH.nil)
                            obtain ⟨z1, z2, z3, z4⟩ := blk2 hQ27.out
                            go_simp
                            try go_wp2_with fail
                            refine hK.out _ _ (below2 hdk27.out hlQ _ _) (fun hHeld => ?_)
                            clear hK K hHeld z1 z2 z3 z4
                            try simp only [Act.put, List.setIfInBounds_toArray, List.set_cons_zero, List.set_cons_succ]
                            obtain ⟨y28, hy⟩ : ∃ y, (y27.setCell ⟨y1.heap.size, 0, none⟩ (.int .i64 (qu : Int))).setCell ⟨y1.heap.size, 1, none⟩ (.int .i64 qb) = y := ⟨_, rfl⟩
                            have hdk28 : Hid (Below wv.heap.size wv y28) := by rw [← hy]; exact hid (below2 hdk27.out hlQ _ _)
                            have hQ28 : Hid (y28.heap[y1.heap.size]? = some (.cells #[.int .i64 (qu : Int), .int .i64 qb] 23 (0, 0))) := by rw [← hy]; exact hid (set2_block hQ27.out _ _)
                            have hP28 : Hid (y28.heap[y20.heap.size]? = some (.cells #[.int .i64 (pu : Int), .int .i64 pb] 23 (0, 0))) := by rw [← hy, Below.heap_setCell _ _ _ _ (by show y20.heap.size ≠ y1.heap.size; omega), Below.heap_setCell _ _ _ _ (by show y20.heap.size ≠ y1.heap.size; omega)]; exact hP27
                            rw [hy]
                            clear hy
                            refine wpAnyH_done (by kernel_rfl) ?_ _
                            refine NoPanic.normal ?_
                            go_wp2_with fail
                            go_meet
                            case rel => exact ⟨_, _, pu, pb, qu, qb, rfl, rfl, hdk28.out, hpu, hpc, hqu, hqc, hP28.out, hQ28.out⟩
                      · skip
                        go_simp
                        refine hK.out _ _ (hdk0.out.alloc hdk0.out.size _) (fun hHeld => ?_)
                        clear hK K hHeld
                        try simp only [Act.put, List.setIfInBounds_toArray, List.set_cons_zero, List.set_cons_succ]
                        obtain ⟨y29, hy⟩ : ∃ y, y0.alloc (.cells #[.int .i64 0, .int .i64 0] 23) = y := ⟨_, rfl⟩
                        have hdk29 : Hid (Below wv.heap.size wv y29) := by rw [← hy]; exact hid (hdk0.out.alloc hdk0.out.size _)
                        have hP29 : Hid (y29.heap[y0.heap.size]? = some (.cells #[.int .i64 0, .int .i64 0] 23 (0, 0))) := by rw [← hy]; exact hid (heap_alloc_new _ _)
                        have hlP : wv.heap.size ≤ y0.heap.size := hdk0.out.size
                        rw [hy]
                        clear hy
                        refine wpAnyH_ready (rs := [3, 9]) (by kernel_rfl) (by simp) ?_
                        refine (AllReadyH.cons (o := { dst := some 98, op := Op.call { callee := Callee.value (Operand.func 10), args := #[Operand.tmp 95, Operand.tmp 97, Operand.const (Value.bool false)], argTypes := #[34, 23, 4] }, type := 23, pos := "law.go:164", after := #[{ on := 0, ground := Ground.data }, { on := 2, ground := Ground.data }], guard := none }) rfl (fun K hK => ?_) (AllReadyH.cons (o := { dst := some 16, op := Op.alloc 23, type := 0, pos := "law.go:164", after := #[], guard := none }) rfl (fun K hK => ?_) AllReadyH.nil))
                        · skip
                          go_simp
                          refine (hcor.out _ _ y29 hdk29.out).mono ?_
                          rintro x y30 ⟨pu, pb, rfl, hpu, hpc, b2⟩
                          replace hpc := hid hpc
                          have hdk30 : Hid (Below wv.heap.size wv y30) := hid (hdk29.out.trans (b2.mono hdk29.out.size))
                          have hP30 := hid ((b2.block _ (Array.getElem?_eq_some_iff.1 hP29.out).1).trans hP29.out)
                          clear b2
                          try go_wp2_with fail
                          refine hK.out _ _ hdk30.out (fun hHeld => ?_)
                          clear hK K hHeld
                          try simp only [Act.put, List.setIfInBounds_toArray, List.set_cons_zero, List.set_cons_succ]
                          refine wpAnyH_ready (rs := [7, 9]) (by kernel_rfl) (by simp) ?_
                          refine (AllReadyH.cons (o := { dst := some 102, op := Op.call { callee := Callee.value (Operand.func 10), args := #[Operand.tmp 99, Operand.tmp 101, Operand.const (Value.bool false)], argTypes := #[34, 23, 4] }, type := 23, pos := "law.go:164", after := #[{ on := 4, ground := Ground.data }, { on := 6, ground := Ground.data }, { on := 3, ground := Ground.chain }], guard := none }) rfl (fun K hK => ?_) (AllReadyH.cons (o := { dst := some 16, op := Op.alloc 23, type := 0, pos := "law.go:164", after := #[], guard := none }) rfl (fun K hK => ?_) AllReadyH.nil))
                          · skip
                            go_simp
                            refine (hcor.out _ _ y30 hdk30.out).mono ?_
                            rintro x y31 ⟨qu, qb, rfl, hqu, hqc, b2⟩
                            replace hqc := hid hqc
                            have hdk31 : Hid (Below wv.heap.size wv y31) := hid (hdk30.out.trans (b2.mono hdk30.out.size))
                            have hP31 := hid ((b2.block _ (Array.getElem?_eq_some_iff.1 hP30.out).1).trans hP30.out)
                            clear b2
                            try go_wp2_with fail
                            refine hK.out _ _ hdk31.out (fun hHeld => ?_)
                            clear hK K hHeld
                            try simp only [Act.put, List.setIfInBounds_toArray, List.set_cons_zero, List.set_cons_succ]
                            refine wpAnyH_ready (rs := [9]) (by kernel_rfl) (by simp) ?_
                            refine (AllReadyH.cons (o := { dst := some 16, op := Op.alloc 23, type := 0, pos := "law.go:164", after := #[], guard := none }) rfl (fun K hK => ?_) AllReadyH.nil)
                            go_simp
                            refine hK.out _ _ (hdk31.out.alloc hdk31.out.size _) (fun hHeld => ?_)
                            clear hK K hHeld
                            try simp only [Act.put, List.setIfInBounds_toArray, List.set_cons_zero, List.set_cons_succ]
                            obtain ⟨y32, hy⟩ : ∃ y, y31.alloc (.cells #[.int .i64 0, .int .i64 0] 23) = y := ⟨_, rfl⟩
                            have hdk32 : Hid (Below wv.heap.size wv y32) := by rw [← hy]; exact hid (hdk31.out.alloc hdk31.out.size _)
                            have hQ32 : Hid (y32.heap[y31.heap.size]? = some (.cells #[.int .i64 0, .int .i64 0] 23 (0, 0))) := by rw [← hy]; exact hid (heap_alloc_new _ _)
                            have hlQ : wv.heap.size ≤ y31.heap.size := hdk31.out.size
                            have hP32 : Hid (y32.heap[y0.heap.size]? = some (.cells #[.int .i64 0, .int .i64 0] 23 (0, 0))) := by rw [← hy]; exact hid (al_keep hP31.out)
                            have hPQ : y0.heap.size ≠ y31.heap.size := by have := (Array.getElem?_eq_some_iff.1 hP31.out).1; omega
                            rw [hy]
                            clear hy
                            refine wpAnyH_ready (rs := [10]) (by kernel_rfl) (by simp) ?_
                            refine (AllReadyH.cons (o := { dst := none, op := Op.store 23 (Operand.tmp 15) (Operand.tmp 98), type := 0, pos := "law.go:164", after := #[{ on := 8, ground := Ground.data }, { on := 3, ground := Ground.data }, { on := 7, ground := Ground.chain }, { on := 0, ground := Ground.phase }, { on := 1, ground := Ground.phase }, { on := 2, ground := Ground.phase }, { on := 3, ground := Ground.phase }, { on := 4, ground := Ground.textOnly Departure.lateStores }, { on := 5, ground := Ground.textOnly Departure.lateStores }, { on := 6, ground := Ground.textOnly Departure.lateStores }, { on := 7, ground := Ground.textOnly Departure.lateStoresUnsure }, { on := 8, ground := Ground.phase }, { on := 9, ground := Ground.phase }], guard := none }) rfl (fun K hK => ?_) AllReadyH.nil)
                            obtain ⟨z1, z2, z3, z4⟩ := blk2 hP32.out
                            go_simp
                            try go_wp2_with fail
                            refine hK.out _ _ (below2 hdk32.out hlP _ _) (fun hHeld => ?_)
                            clear hK K hHeld z1 z2 z3 z4
                            try simp only [Act.put, List.setIfInBounds_toArray, List.set_cons_zero, List.set_cons_succ]
                            obtain ⟨y33, hy⟩ : ∃ y, (y32.setCell ⟨y0.heap.size, 0, none⟩ (.int .i64 (pu : Int))).setCell ⟨y0.heap.size, 1, none⟩ (.int .i64 pb) = y := ⟨_, rfl⟩
                            have hdk33 : Hid (Below wv.heap.size wv y33) := by rw [← hy]; exact hid (below2 hdk32.out hlP _ _)
                            have hP33 : Hid (y33.heap[y0.heap.size]? = some (.cells #[.int .i64 (pu : Int), .int .i64 pb] 23 (0, 0))) := by rw [← hy]; exact hid (set2_block hP32.out _ _)
                            have hQ33 : Hid (y33.heap[y31.heap.size]? = some (.cells #[.int .i64 0, .int .i64 0] 23 (0, 0))) := by rw [← hy, Below.heap_setCell _ _ _ _ (by show y31.heap.size ≠ y0.heap.size; omega), Below.heap_setCell _ _ _ _ (by show y31.heap.size ≠ y0.heap.size; omega)]; exact hQ32
                            rw [hy]
                            clear hy
                            refine wpAnyH_ready (rs := [11]) (by kernel_rfl) (by simp) ?_
                            refine (AllReadyH.cons (o := { dst := none, op := Op.store 23 (Operand.tmp 16) (Operand.tmp 102), type := 0, pos := "law.go:164", after := #[{ on := 9, ground := Ground.data }, { on := 7, ground := Ground.data }, { on := 10, ground := Ground.chain }, { on := 0, ground := Ground.phase }, { on := 1, ground := Ground.phase }, { on := 2, ground := Ground.phase }, { on := 3, ground := Ground.phase }, { on := 4, ground := Ground.phase }, { on := 5, ground := Ground.phase }, { on := 6, ground := Ground.phase }, { on := 7, ground := Ground.phase }, { on := 8, ground := Ground.phase }, { on := 9, ground := Ground.phase }, { on := 10, ground := Ground.phase }], guard := none }) rfl (fun K hK => ?_) AllReadyH.nil)
                            obtain ⟨z1, z2, z3, z4⟩ := blk2 hQ33.out
                            go_simp
                            try go_wp2_with fail
                            refine hK.out _ _ (below2 hdk33.out hlQ _ _) (fun hHeld => ?_)
                            clear hK K hHeld z1 z2 z3 z4
                            try simp only [Act.put, List.setIfInBounds_toArray, List.set_cons_zero, List.set_cons_succ]
                            obtain ⟨y34, hy⟩ : ∃ y, (y33.setCell ⟨y31.heap.size, 0, none⟩ (.int .i64 (qu : Int))).setCell ⟨y31.heap.size, 1, none⟩ (.int .i64 qb) = y := ⟨_, rfl⟩
                            have hdk34 : Hid (Below wv.heap.size wv y34) := by rw [← hy]; exact hid (below2 hdk33.out hlQ _ _)
                            have hQ34 : Hid (y34.heap[y31.heap.size]? = some (.cells #[.int .i64 (qu : Int), .int .i64 qb] 23 (0, 0))) := by rw [← hy]; exact hid (set2_block hQ33.out _ _)
                            have hP34 : Hid (y34.heap[y0.heap.size]? = some (.cells #[.int .i64 (pu : Int), .int .i64 pb] 23 (0, 0))) := by rw [← hy, Below.heap_setCell _ _ _ _ (by show y0.heap.size ≠ y31.heap.size; omega), Below.heap_setCell _ _ _ _ (by show y0.heap.size ≠ y31.heap.size; omega)]; exact hP33
                            rw [hy]
                            clear hy
                            refine wpAnyH_done (by kernel_rfl) ?_ _
                            refine NoPanic.normal ?_
                            go_wp2_with fail
                            go_meet
                            case rel => exact ⟨_, _, pu, pb, qu, qb, rfl, rfl, hdk34.out, hpu, hpc, hqu, hqc, hP34.out, hQ34.out⟩
                          · skip
                            go_simp
                            refine hK.out _ _ (hdk30.out.alloc hdk30.out.size _) (fun hHeld => ?_)
                            clear hK K hHeld
                            try simp only [Act.put, List.setIfInBounds_toArray, List.set_cons_zero, List.set_cons_succ]
                            obtain ⟨y35, hy⟩ : ∃ y, y30.alloc (.cells #[.int .i64 0, .int .i64 0] 23) = y := ⟨_, rfl⟩
                            have hdk35 : Hid (Below wv.heap.size wv y35) := by rw [← hy]; exact hid (hdk30.out.alloc hdk30.out.size _)
                            have hQ35 : Hid (y35.heap[y30.heap.size]? = some (.cells #[.int .i64 0, .int .i64 0] 23 (0, 0))) := by rw [← hy]; exact hid (heap_alloc_new _ _)
                            have hlQ : wv.heap.size ≤ y30.heap.size := hdk30.out.size
                            have hP35 : Hid (y35.heap[y0.heap.size]? = some (.cells #[.int .i64 0, .int .i64 0] 23 (0, 0))) := by rw [← hy]; exact hid (al_keep hP30.out)
                            have hPQ : y0.heap.size ≠ y30.heap.size := by have := (Array.getElem?_eq_some_iff.1 hP30.out).1; omega
                            rw [hy]
                            clear hy
                            refine wpAnyH_ready (rs := [7]) (by kernel_rfl) (by simp) ?_
                            refine (AllReadyH.cons (o := { dst := some 102, op := Op.call { callee := Callee.value (Operand.func 10), args := #[Operand.tmp 99, Operand.tmp 101, Operand.const (Value.bool false)], argTypes := #[34, 23, 4] }, type := 23, pos := "law.go:164", after := #[{ on := 4, ground := Ground.data }, { on := 6, ground := Ground.data }, { on := 3, ground := Ground.chain }], guard := none }) rfl (fun K hK => ?_) AllReadyH.nil)
                            go_simp
                            refine (hcor.out _ _ y35 hdk35.out).mono ?_
                            rintro x y36 ⟨qu, qb, rfl, hqu, hqc, b2⟩
                            replace hqc := hid hqc
                            have hdk36 : Hid (Below wv.heap.size wv y36) := hid (hdk35.out.trans (b2.mono hdk35.out.size))
                            have hP36 := hid ((b2.block _ (Array.getElem?_eq_some_iff.1 hP35.out).1).trans hP35.out)
                            have hQ36 := hid ((b2.block _ (Array.getElem?_eq_some_iff.1 hQ35.out).1).trans hQ35.out)
                            clear b2
                            try go_wp2_with fail
                            refine hK.out _ _ hdk36.out (fun hHeld => ?_)
                            clear hK K hHeld
                            try simp only [Act.put, List.setIfInBounds_toArray, List.set_cons_zero, List.set_cons_succ]
                            refine wpAnyH_ready (rs := [10]) (by kernel_rfl) (by simp) ?_
                            refine (AllReadyH.cons (o := { dst := none, op := Op.store 23 (Operand.tmp 15) (Operand.tmp 98), type := 0, pos := "law.go:164", after := #[{ on := 8, ground := Ground.data }, { on := 3, ground := Ground.data }, { on := 7, ground := Ground.chain }, { on := 0, ground := Ground.phase }, { on := 1, ground := Ground.phase }, { on := 2, ground := Ground.phase }, { on := 3, ground := Ground.phase }, { on := 4, ground := Ground.textOnly Departure.lateStores }, { on := 5, ground := Ground.textOnly Departure.lateStores }, { on := 6, ground := Ground.textOnly Departure.lateStores }, { on := 7, ground := Ground.textOnly Departure.lateStoresUnsure }, { on := 8, ground := Ground.phase }, { on := 9, ground := Ground.phase }], guard := none }) rfl (fun K hK => ?_) AllReadyH.nil)
                            obtain ⟨z1, z2, z3, z4⟩ := blk2 hP36.out
                            go_simp
                            try go_wp2_with fail
                            refine hK.out _ _ (below2 hdk36.out hlP _ _) (fun hHeld => ?_)
                            clear hK K hHeld z1 z2 z3 z4
                            try simp only [Act.put, List.setIfInBounds_toArray, List.set_cons_zero, List.set_cons_succ]
                            obtain ⟨y37, hy⟩ : ∃ y, (y36.setCell ⟨y0.heap.size, 0, none⟩ (.int .i64 (pu : Int))).setCell ⟨y0.heap.size, 1, none⟩ (.int .i64 pb) = y := ⟨_, rfl⟩
                            have hdk37 : Hid (Below wv.heap.size wv y37) := by rw [← hy]; exact hid (below2 hdk36.out hlP _ _)
                            have hP37 : Hid (y37.heap[y0.heap.size]? = some (.cells #[.int .i64 (pu : Int), .int .i64 pb] 23 (0, 0))) := by rw [← hy]; exact hid (set2_block hP36.out _ _)
                            have hQ37 : Hid (y37.heap[y30.heap.size]? = some (.cells #[.int .i64 0, .int .i64 0] 23 (0, 0))) := by rw [← hy, Below.heap_setCell _ _ _ _ (by show y30.heap.size ≠ y0.heap.size; omega), Below.heap_setCell _ _ _ _ (by show y30.heap.size ≠ y0.heap.size; omega)]; exact hQ36
                            rw [hy]
                            clear hy
                            refine wpAnyH_ready (rs := [11]) (by kernel_rfl) (by simp) ?_
                            refine (AllReadyH.cons (o := { dst := none, op := Op.store 23 (Operand.tmp 16) (Operand.tmp 102), type := 0, pos := "law.go:164", after := #[{ on := 9, ground := Ground.data }, { on := 7, ground := Ground.data }, { on := 10, ground := Ground.chain }, { on := 0, ground := Ground.phase }, { on := 1, ground := Ground.phase }, { on := 2, ground := Ground.phase }, { on := 3, ground := Ground.phase }, { on := 4, ground := Ground.phase }, { on := 5, ground := Ground.phase }, { on := 6, ground := Ground.phase }, { on := 7, ground := Ground.phase }, { on := 8, ground := Ground.phase }, { on := 9, ground := Ground.phase }, { on := 10, ground := Ground.phase }], guard := none }) rfl (fun K hK => ?_) AllReadyH.nil)
                            obtain ⟨z1, z2, z3, z4⟩ := blk2 hQ37.out
                            go_simp
                            try go_wp2_with fail
                            refine hK.out _ _ (below2 hdk37.out hlQ _ _) (fun hHeld => ?_)
                            clear hK K hHeld z1 z2 z3 z4
                            try simp only [Act.put, List.setIfInBounds_toArray, List.set_cons_zero, List.set_cons_succ]
                            obtain ⟨y38, hy⟩ : ∃ y, (y37.setCell ⟨y30.heap.size, 0, none⟩ (.int .i64 (qu : Int))).setCell ⟨y30.heap.size, 1, none⟩ (.int .i64 qb) = y := ⟨_, rfl⟩
                            have hdk38 : Hid (Below wv.heap.size wv y38) := by rw [← hy]; exact hid (below2 hdk37.out hlQ _ _)
                            have hQ38 : Hid (y38.heap[y30.heap.size]? = some (.cells #[.int .i64 (qu : Int), .int .i64 qb] 23 (0, 0))) := by rw [← hy]; exact hid (set2_block hQ37.out _ _)
                            have hP38 : Hid (y38.heap[y0.heap.size]? = some (.cells #[.int .i64 (pu : Int), .int .i64 pb] 23 (0, 0))) := by rw [← hy, Below.heap_setCell _ _ _ _ (by show y0.heap.size ≠ y30.heap.size; omega), Below.heap_setCell _ _ _ _ (by show y0.heap.size ≠ y30.heap.size; omega)]; exact hP37
                            rw [hy]
                            clear hy
                            refine wpAnyH_done (by kernel_rfl) ?_ _
                            refine NoPanic.normal ?_
                            go_wp2_with fail
                            go_meet
                            case rel => exact ⟨_, _, pu, pb, qu, qb, rfl, rfl, hdk38.out, hpu, hpc, hqu, hqc, hP38.out, hQ38.out⟩
                        · skip
                          go_simp
                          refine hK.out _ _ (hdk29.out.alloc hdk29.out.size _) (fun hHeld => ?_)
                          clear hK K hHeld
                          try simp only [Act.put, List.setIfInBounds_toArray, List.set_cons_zero, List.set_cons_succ]
                          obtain ⟨y39, hy⟩ : ∃ y, y29.alloc (.cells #[.int .i64 0, .int .i64 0] 23) = y := ⟨_, rfl⟩
                          have hdk39 : Hid (Below wv.heap.size wv y39) := by rw [← hy]; exact hid (hdk29.out.alloc hdk29.out.size _)
                          have hQ39 : Hid (y39.heap[y29.heap.size]? = some (.cells #[.int .i64 0, .int .i64 0] 23 (0, 0))) := by rw [← hy]; exact hid (heap_alloc_new _ _)
                          have hlQ : wv.heap.size ≤ y29.heap.size := hdk29.out.size
                          have hP39 : Hid (y39.heap[y0.heap.size]? = some (.cells #[.int .i64 0, .int .i64 0] 23 (0, 0))) := by rw [← hy]; exact hid (al_keep hP29.out)
                          have hPQ : y0.heap.size ≠ y29.heap.size := by have := (Array.getElem?_eq_some_iff.1 hP29.out).1; omega
                          rw [hy]
                          clear hy
                          refine wpAnyH_ready (rs := [3]) (by kernel_rfl) (by simp) ?_
                          refine (AllReadyH.cons (o := { dst := some 98, op := Op.call { callee := Callee.value (Operand.func 10), args := #[Operand.tmp 95, Operand.tmp 97, Operand.const (Value.bool false)], argTypes := #[34, 23, 4] }, type := 23, pos := "law.go:164", after := #[{ on := 0, ground := Ground.data }, { on := 2, ground := Ground.data }], guard := none }) rfl (fun K hK => ?_) AllReadyH.nil)
                          go_simp
                          refine (hcor.out _ _ y39 hdk39.out).mono ?_
                          rintro x y40 ⟨pu, pb, rfl, hpu, hpc, b2⟩
                          replace hpc := hid hpc
                          have hdk40 : Hid (Below wv.heap.size wv y40) := hid (hdk39.out.trans (b2.mono hdk39.out.size))
                          have hP40 := hid ((b2.block _ (Array.getElem?_eq_some_iff.1 hP39.out).1).trans hP39.out)
                          have hQ40 := hid ((b2.block _ (Array.getElem?_eq_some_iff.1 hQ39.out).1).trans hQ39.out)
                          clear b2
                          try go_wp2_with fail
                          refine hK.out _ _ hdk40.out (fun hHeld => ?_)
                          clear hK K hHeld
                          try simp only [Act.put, List.setIfInBounds_toArray, List.set_cons_zero, List.set_cons_succ]
                          refine wpAnyH_ready (rs := [7]) (by kernel_rfl) (by simp) ?_
                          refine (AllReadyH.cons (o := { dst := some 102, op := Op.call { callee := Callee.value (Operand.func 10), args := #[Operand.tmp 99, Operand.tmp 101, Operand.const (Value.bool false)], argTypes := #[34, 23, 4] }, type := 23, pos := "law.go:164", after := #[{ on := 4, ground := Ground.data }, { on := 6, ground := Ground.data }, { on := 3, ground := Ground.chain }], guard := none }) rfl (fun K hK => ?_) AllReadyH.nil)
                          go_simp
                          refine (hcor.out _ _ y40 hdk40.out).mono ?_
                          rintro x y41 ⟨qu, qb, rfl, hqu, hqc, b2⟩
                          replace hqc := hid hqc
                          have hdk41 : Hid (Below wv.heap.size wv y41) := hid (hdk40.out.trans (b2.mono hdk40.out.size))
                          have hP41 := hid ((b2.block _ (Array.getElem?_eq_some_iff.1 hP40.out).1).trans hP40.out)
                          have hQ41 := hid ((b2.block _ (Array.getElem?_eq_some_iff.1 hQ40.out).1).trans hQ40.out)
                          clear b2
                          try go_wp2_with fail
                          refine hK.out _ _ hdk41.out (fun hHeld => ?_)
                          clear hK K hHeld
                          try simp only [Act.put, List.setIfInBounds_toArray, List.set_cons_zero, List.set_cons_succ]
                          refine wpAnyH_ready (rs := [10]) (by kernel_rfl) (by simp) ?_
                          refine (AllReadyH.cons (o := { dst := none, op := Op.store 23 (Operand.tmp 15) (Operand.tmp 98), type := 0, pos := "law.go:164", after := #[{ on := 8, ground := Ground.data }, { on := 3, ground := Ground.data }, { on := 7, ground := Ground.chain }, { on := 0, ground := Ground.phase }, { on := 1, ground := Ground.phase }, { on := 2, ground := Ground.phase }, { on := 3, ground := Ground.phase }, { on := 4, ground := Ground.textOnly Departure.lateStores }, { on := 5, ground := Ground.textOnly Departure.lateStores }, { on := 6, ground := Ground.textOnly Departure.lateStores }, { on := 7, ground := Ground.textOnly Departure.lateStoresUnsure }, { on := 8, ground := Ground.phase }, { on := 9, ground := Ground.phase }], guard := none }) rfl (fun K hK => ?_) AllReadyH.nil)
                          obtain ⟨z1, z2, z3, z4⟩ := blk2 hP41.out
                          go_simp
                          try go_wp2_with fail
                          refine hK.out _ _ (below2 hdk41.out hlP _ _) (fun hHeld => ?_)
                          clear hK K hHeld z1 z2 z3 z4
                          try simp only [Act.put, List.setIfInBounds_toArray, List.set_cons_zero, List.set_cons_succ]
                          obtain ⟨y42, hy⟩ : ∃ y, (y41.setCell ⟨y0.heap.size, 0, none⟩ (.int .i64 (pu : Int))).setCell ⟨y0.heap.size, 1, none⟩ (.int .i64 pb) = y := ⟨_, rfl⟩
                          have hdk42 : Hid (Below wv.heap.size wv y42) := by rw [← hy]; exact hid (below2 hdk41.out hlP _ _)
                          have hP42 : Hid (y42.heap[y0.heap.size]? = some (.cells #[.int .i64 (pu : Int), .int .i64 pb] 23 (0, 0))) := by rw [← hy]; exact hid (set2_block hP41.out _ _)
                          have hQ42 : Hid (y42.heap[y29.heap.size]? = some (.cells #[.int .i64 0, .int .i64 0] 23 (0, 0))) := by rw [← hy, Below.heap_setCell _ _ _ _ (by show y29.heap.size ≠ y0.heap.size; omega), Below.heap_setCell _ _ _ _ (by show y29.heap.size ≠ y0.heap.size; omega)]; exact hQ41
                          rw [hy]
                          clear hy
                          refine wpAnyH_ready (rs := [11]) (by kernel_rfl) (by simp) ?_
                          refine (AllReadyH.cons (o := { dst := none, op := Op.store 23 (Operand.tmp 16) (Operand.tmp 102), type := 0, pos := "law.go:164", after := #[{ on := 9, ground := Ground.data }, { on := 7, ground := Ground.data }, { on := 10, ground := Ground.chain }, { on := 0, ground := Ground.phase }, { on := 1, ground := Ground.phase }, { on := 2, ground := Ground.phase }, { on := 3, ground := Ground.phase }, { on := 4, ground := Ground.phase }, { on := 5, ground := Ground.phase }, { on := 6, ground := Ground.phase }, { on := 7, ground := Ground.phase }, { on := 8, ground := Ground.phase }, { on := 9, ground := Ground.phase }, { on := 10, ground := Ground.phase }], guard := none }) rfl (fun K hK => ?_) AllReadyH.nil)
                          obtain ⟨z1, z2, z3, z4⟩ := blk2 hQ42.out
                          go_simp
                          try go_wp2_with fail
                          refine hK.out _ _ (below2 hdk42.out hlQ _ _) (fun hHeld => ?_)
                          clear hK K hHeld z1 z2 z3 z4
                          try simp only [Act.put, List.setIfInBounds_toArray, List.set_cons_zero, List.set_cons_succ]
                          obtain ⟨y43, hy⟩ : ∃ y, (y42.setCell ⟨y29.heap.size, 0, none⟩ (.int .i64 (qu : Int))).setCell ⟨y29.heap.size, 1, none⟩ (.int .i64 qb) = y := ⟨_, rfl⟩
                          have hdk43 : Hid (Below wv.heap.size wv y43) := by rw [← hy]; exact hid (below2 hdk42.out hlQ _ _)
                          have hQ43 : Hid (y43.heap[y29.heap.size]? = some (.cells #[.int .i64 (qu : Int), .int .i64 qb] 23 (0, 0))) := by rw [← hy]; exact hid (set2_block hQ42.out _ _)
                          have hP43 : Hid (y43.heap[y0.heap.size]? = some (.cells #[.int .i64 (pu : Int), .int .i64 pb] 23 (0, 0))) := by rw [← hy, Below.heap_setCell _ _ _ _ (by show y0.heap.size ≠ y29.heap.size; omega), Below.heap_setCell _ _ _ _ (by show y0.heap.size ≠ y29.heap.size; omega)]; exact hP42
                          rw [hy]
                          clear hy
                          refine wpAnyH_done (by kernel_rfl) ?_ _
                          refine NoPanic.normal ?_
                          go_wp2_with fail
                          go_meet
                          case rel => exact ⟨_, _, pu, pb, qu, qb, rfl, rfl, hdk43.out, hpu, hpc, hqu, hqc, hP43.out, hQ43.out⟩
                      · skip
                        go_simp
                        refine hK.out _ _ (hdk0.out.alloc hdk0.out.size _) (fun hHeld => ?_)
                        clear hK K hHeld
                        try simp only [Act.put, List.setIfInBounds_toArray, List.set_cons_zero, List.set_cons_succ]
                        obtain ⟨y44, hy⟩ : ∃ y, y0.alloc (.cells #[.int .i64 0, .int .i64 0] 23) = y := ⟨_, rfl⟩
                        have hdk44 : Hid (Below wv.heap.size wv y44) := by rw [← hy]; exact hid (hdk0.out.alloc hdk0.out.size _)
                        have hQ44 : Hid (y44.heap[y0.heap.size]? = some (.cells #[.int .i64 0, .int .i64 0] 23 (0, 0))) := by rw [← hy]; exact hid (heap_alloc_new _ _)
                        have hlQ : wv.heap.size ≤ y0.heap.size := hdk0.out.size
                        rw [hy]
                        clear hy
                        refine wpAnyH_ready (rs := [3, 8]) (by kernel_rfl) (by simp) ?_
                        refine (AllReadyH.cons (o := { dst := some 98, op := Op.call { callee := Callee.value (Operand.func 10), args := #[Operand.tmp 95, Operand.tmp 97, Operand.const (Value.bool false)], argTypes := #[34, 23, 4] }, type := 23, pos := "law.go:164", after := #[{ on := 0, ground := Ground.data }, { on := 2, ground := Ground.data }], guard := none }) rfl (fun K hK => ?_) (AllReadyH.cons (o := { dst := some 15, op := Op.alloc 23, type := 0, pos := "law.go:164", after := #[], guard := none }) rfl (fun K hK => ?_) AllReadyH.nil))
                        · skip
                          go_simp
                          refine (hcor.out _ _ y44 hdk44.out).mono ?_
                          rintro x y45 ⟨pu, pb, rfl, hpu, hpc, b2⟩
                          replace hpc := hid hpc
                          have hdk45 : Hid (Below wv.heap.size wv y45) := hid (hdk44.out.trans (b2.mono hdk44.out.size))
                          have hQ45 := hid ((b2.block _ (Array.getElem?_eq_some_iff.1 hQ44.out).1).trans hQ44.out)
                          clear b2
                          try go_wp2_with fail
                          refine hK.out _ _ hdk45.out (fun hHeld => ?_)
                          clear hK K hHeld
                          try simp only [Act.put, List.setIfInBounds_toArray, List.set_cons_zero, List.set_cons_succ]
                          refine wpAnyH_ready (rs := [7, 8]) (by kernel_rfl) (by simp) ?_
                          refine (AllReadyH.cons (o := { dst := some 102, op := Op.call { callee := Callee.value (Operand.func 10), args := #[Operand.tmp 99, Operand.tmp 101, Operand.const (Value.bool false)], argTypes := #[34, 23, 4] }, type := 23, pos := "law.go:164", after := #[{ on := 4, ground := Ground.data }, { on := 6, ground := Ground.data }, { on := 3, ground := Ground.chain }], guard := none }) rfl (fun K hK => ?_) (AllReadyH.cons (o := { dst := some 15, op := Op.alloc 23, type := 0, pos := "law.go:164", after := #[], guard := none }) rfl (fun K hK => ?_) AllReadyH.nil))
                          · skip
                            go_simp
                            refine (hcor.out _ _ y45 hdk45.out).mono ?_
                            rintro x y46 ⟨qu, qb, rfl, hqu, hqc, b2⟩
                            replace hqc := hid hqc
                            have hdk46 : Hid (Below wv.heap.size wv y46) := hid (hdk45.out.trans (b2.mono hdk45.out.size))
                            have hQ46 := hid ((b2.block _ (Array.getElem?_eq_some_iff.1 hQ45.out).1).trans hQ45.out)
                            clear b2
                            try go_wp2_with fail
                            refine hK.out _ _ hdk46.out (fun hHeld => ?_)
                            clear hK K hHeld
                            try simp only [Act.put, List.setIfInBounds_toArray, List.set_cons_zero, List.set_cons_succ]
                            refine wpAnyH_ready (rs := [8]) (by kernel_rfl) (by simp) ?_
                            refine (AllReadyH.cons (o := { dst := some 15, op := Op.alloc 23, type := 0, pos := "law.go:164", after := #[], guard := none }) rfl (fun K hK => ?_) AllReadyH.nil)
                            go_simp
                            refine hK.out _ _ (hdk46.out.alloc hdk46.out.size _) (fun hHeld => ?_)
                            clear hK K hHeld
                            try simp only [Act.put, List.setIfInBounds_toArray, List.set_cons_zero, List.set_cons_succ]
                            obtain ⟨y47, hy⟩ : ∃ y, y46.alloc (.cells #[.int .i64 0, .int .i64 0] 23) = y := ⟨_, rfl⟩
                            have hdk47 : Hid (Below wv.heap.size wv y47) := by rw [← hy]; exact hid (hdk46.out.alloc hdk46.out.size _)
                            have hP47 : Hid (y47.heap[y46.heap.size]? = some (.cells #[.int .i64 0, .int .i64 0] 23 (0, 0))) := by rw [← hy]; exact hid (heap_alloc_new _ _)
                            have hlP : wv.heap.size ≤ y46.heap.size := hdk46.out.size
                            have hQ47 : Hid (y47.heap[y0.heap.size]? = some (.cells #[.int .i64 0, .int .i64 0] 23 (0, 0))) := by rw [← hy]; exact hid (al_keep hQ46.out)
                            have hPQ : y0.heap.size ≠ y46.heap.size := by have := (Array.getElem?_eq_some_iff.1 hQ46.out).1; omega
                            rw [hy]
                            clear hy
                            refine wpAnyH_ready (rs := [10]) (by kernel_rfl) (by simp) ?_
                            refine (AllReadyH.cons (o := { dst := none, op := Op.store 23 (Operand.tmp 15) (Operand.tmp 98), type := 0, pos := "law.go:164", after := #[{ on := 8, ground := Ground.data }, { on := 3, ground := Ground.data }, { on := 7, ground := Ground.chain }, { on := 0, ground := Ground.phase }, { on := 1, ground := Ground.phase }, { on := 2, ground := Ground.phase }, { on := 3, ground := Ground.phase }, { on := 4, ground := Ground.textOnly Departure.lateStores }, { on := 5, ground := Ground.textOnly Departure.lateStores }, { on := 6, ground := Ground.textOnly Departure.lateStores }, { on := 7, ground := Ground.textOnly Departure.lateStoresUnsure }, { on := 8, ground := Ground.phase }, { on := 9, ground := Ground.phase }], guard := none }) rfl (fun K hK => ?_) AllReadyH.nil)
                            obtain ⟨z1, z2, z3, z4⟩ := blk2 hP47.out
                            go_simp
                            try go_wp2_with fail
                            refine hK.out _ _ (below2 hdk47.out hlP _ _) (fun hHeld => ?_)
                            clear hK K hHeld z1 z2 z3 z4
                            try simp only [Act.put, List.setIfInBounds_toArray, List.set_cons_zero, List.set_cons_succ]
                            obtain ⟨y48, hy⟩ : ∃ y, (y47.setCell ⟨y46.heap.size, 0, none⟩ (.int .i64 (pu : Int))).setCell ⟨y46.heap.size, 1, none⟩ (.int .i64 pb) = y := ⟨_, rfl⟩
                            have hdk48 : Hid (Below wv.heap.size wv y48) := by rw [← hy]; exact hid (below2 hdk47.out hlP _ _)
                            have hP48 : Hid (y48.heap[y46.heap.size]? = some (.cells #[.int .i64 (pu : Int), .int .i64 pb] 23 (0, 0))) := by rw [← hy]; exact hid (set2_block hP47.out _ _)
                            have hQ48 : Hid (y48.heap[y0.heap.size]? = some (.cells #[.int .i64 0, .int .i64 0] 23 (0, 0))) := by rw [← hy, Below.heap_setCell _ _ _ _ (by show y0.heap.size ≠ y46.heap.size; omega), Below.heap_setCell _ _ _ _ (by show y0.heap.size ≠ y46.heap.size; omega)]; exact hQ47
                            rw [hy]
                            clear hy
                            refine wpAnyH_ready (rs := [11]) (by kernel_rfl) (by simp) ?_
                            refine (AllReadyH.cons (o := { dst := none, op := Op.store 23 (Operand.tmp 16) (Operand.tmp 102), type := 0, pos := "law.go:164", after := #[{ on := 9, ground := Ground.data }, { on := 7, ground := Ground.data }, { on := 10, ground := Ground.chain }, { on := 0, ground := Ground.phase }, { on := 1, ground := Ground.phase }, { on := 2, ground := Ground.phase }, { on := 3, ground := Ground.phase }, { on := 4, ground := Ground.phase }, { on := 5, ground := Ground.phase }, { on := 6, ground := Ground.phase }, { on := 7, ground := Ground.phase }, { on := 8, ground := Ground.phase }, { on := 9, ground := Ground.phase }, { on := 10, ground := Ground.phase }], guard := none }) rfl (fun K hK => ?_) AllReadyH.nil)
                            obtain ⟨z1, z2, z3, z4⟩ := blk2 hQ48.out
                            go_simp
                            try go_wp2_with fail
                            refine hK.out _ _ (below2 hdk48.out hlQ _ _) (fun hHeld => ?_)
                            clear hK K hHeld z1 z2 z3 z4
                            try simp only [Act.put, List.setIfInBounds_toArray, List.set_cons_zero, List.set_cons_succ]
                            obtain ⟨y49, hy⟩ : ∃ y, (y48.setCell ⟨y0.heap.size, 0, none⟩ (.int .i64 (qu : Int))).setCell ⟨y0.heap.size, 1, none⟩ (.int .i64 qb) = y := ⟨_, rfl⟩
                            have hdk49 : Hid (Below wv.heap.size wv y49) := by rw [← hy]; exact hid (below2 hdk48.out hlQ _ _)
                            have hQ49 : Hid (y49.heap[y0.heap.size]? = some (.cells #[.int .i64 (qu : Int), .int .i64 qb] 23 (0, 0))) := by rw [← hy]; exact hid (set2_block hQ48.out _ _)
                            have hP49 : Hid (y49.heap[y46.heap.size]? = some (.cells #[.int .i64 (pu : Int), .int .i64 pb] 23 (0, 0))) := by rw [← hy, Below.heap_setCell _ _ _ _ (by show y46.heap.size ≠ y0.heap.size; omega), Below.heap_setCell _ _ _ _ (by show y46.heap.size ≠ y0.heap.size; omega)]; exact hP48
                            rw [hy]
                            clear hy
                            refine wpAnyH_done (by kernel_rfl) ?_ _
                            refine NoPanic.normal ?_
                            go_wp2_with fail
                            go_meet
                            case rel => exact ⟨_, _, pu, pb, qu, qb, rfl, rfl, hdk49.out, hpu, hpc, hqu, hqc, hP49.out, hQ49.out⟩
                          · skip
                            go_simp
                            refine hK.out _ _ (hdk45.out.alloc hdk45.out.size _) (fun hHeld => ?_)
                            clear hK K hHeld
                            try simp only [Act.put, List.setIfInBounds_toArray, List.set_cons_zero, List.set_cons_succ]
                            obtain ⟨y50, hy⟩ : ∃ y, y45.alloc (.cells #[.int .i64 0, .int .i64 0] 23) = y := ⟨_, rfl⟩
                            have hdk50 : Hid (Below wv.heap.size wv y50) := by rw [← hy]; exact hid (hdk45.out.alloc hdk45.out.size _)
                            have hP50 : Hid (y50.heap[y45.heap.size]? = some (.cells #[.int .i64 0, .int .i64 0] 23 (0, 0))) := by rw [← hy]; exact hid (heap_alloc_new _ _)
                            have hlP : wv.heap.size ≤ y45.heap.size := hdk45.out.size
                            have hQ50 : Hid (y50.heap[y0.heap.size]? = some (.cells #[.int .i64 0, .int .i64 0] 23 (0, 0))) := by rw [← hy]; exact hid (al_keep hQ45.out)
                            have hPQ : y0.heap.size ≠ y45.heap.size := by have := (Array.getElem?_eq_some_iff.1 hQ45.out).1; omega
                            rw [hy]
                            clear hy
                            refine wpAnyH_ready (rs := [7]) (by kernel_rfl) (by simp) ?_
                            refine (AllReadyH.cons (o := { dst := some 102, op := Op.call { callee := Callee.value (Operand.func 10), args := #[Operand.tmp 99, Operand.tmp 101, Operand.const (Value.bool false)], argTypes := #[34, 23, 4] }, type := 23, pos := "law.go:164", after := #[{ on := 4, ground := Ground.data }, { on := 6, ground := Ground.data }, { on := 3, ground := Ground.chain }], guard := none }) rfl (fun K hK => ?_) AllReadyH.nil)
                            go_simp
                            refine (hcor.out _ _ y50 hdk50.out).mono ?_
                            rintro x y51 ⟨qu, qb, rfl, hqu, hqc, b2⟩
                            replace hqc := hid hqc
                            have hdk51 : Hid (Below wv.heap.size wv y51) := hid (hdk50.out.trans (b2.mono hdk50.out.size))
                            have hP51 := hid ((b2.block _ (Array.getElem?_eq_some_iff.1 hP50.out).1).trans hP50.out)
                            have hQ51 := hid ((b2.block _ (Array.getElem?_eq_some_iff.1 hQ50.out).1).trans hQ50.out)
                            clear b2
                            try go_wp2_with fail
                            refine hK.out _ _ hdk51.out (fun hHeld => ?_)
                            clear hK K hHeld
                            try simp only [Act.put, List.setIfInBounds_toArray, List.set_cons_zero, List.set_cons_succ]
                            refine wpAnyH_ready (rs := [10]) (by kernel_rfl) (by simp) ?_
                            refine (AllReadyH.cons (o := { dst := none, op := Op.store 23 (Operand.tmp 15) (Operand.tmp 98), type := 0, pos := "law.go:164", after := #[{ on := 8, ground := Ground.data }, { on := 3, ground := Ground.data }, { on := 7, ground := Ground.chain }, { on := 0, ground := Ground.phase }, { on := 1, ground := Ground.phase }, { on := 2, ground := Ground.phase }, { on := 3, ground := Ground.phase }, { on := 4, ground := Ground.textOnly Departure.lateStores }, { on := 5, ground := Ground.textOnly Departure.lateStores }, { on := 6, ground := Ground.textOnly Departure.lateStores }, { on := 7, ground := Ground.textOnly Departure.lateStoresUnsure }, { on := 8, ground := Ground.phase }, { on := 9, ground := Ground.phase }], guard := none }) rfl (fun K hK => ?_) AllReadyH.nil)
                            obtain ⟨z1, z2, z3, z4⟩ := blk2 hP51.out
                            go_simp
                            try go_wp2_with fail
                            refine hK.out _ _ (below2 hdk51.out hlP _ _) (fun hHeld => ?_)
                            clear hK K hHeld z1 z2 z3 z4
                            try simp only [Act.put, List.setIfInBounds_toArray, List.set_cons_zero, List.set_cons_succ]
                            obtain ⟨y52, hy⟩ : ∃ y, (y51.setCell ⟨y45.heap.size, 0, none⟩ (.int .i64 (pu : Int))).setCell ⟨y45.heap.size, 1, none⟩ (.int .i64 pb) = y := ⟨_, rfl⟩
                            have hdk52 : Hid (Below wv.heap.size wv y52) := by rw [← hy]; exact hid (below2 hdk51.out hlP _ _)
                            have hP52 : Hid (y52.heap[y45.heap.size]? = some (.cells #[.int .i64 (pu : Int), .int .i64 pb] 23 (0, 0))) := by rw [← hy]; exact hid (set2_block hP51.out _ _)
                            have hQ52 : Hid (y52.heap[y0.heap.size]? = some (.cells #[.int .i64 0, .int .i64 0] 23 (0, 0))) := by rw [← hy, Below.heap_setCell _ _ _ _ (by show y0.heap.size ≠ y45.heap.size; omega), Below.heap_setCell _ _ _ _ (by show y0.heap.size ≠ y45.heap.size; omega)]; exact hQ51
                            rw [hy]
                            clear hy
                            refine wpAnyH_ready (rs := [11]) (by kernel_rfl) (by simp) ?_
                            refine (AllReadyH.cons (o := { dst := none, op := Op.store 23 (Operand.tmp 16) (Operand.tmp 102), type := 0, pos := "law.go:164", after := #[{ on := 9, ground := Ground.data }, { on := 7, ground := Ground.data }, { on := 10, ground := Ground.chain }, { on := 0, ground := Ground.phase }, { on := 1, ground := Ground.phase }, { on := 2, ground := Ground.phase }, { on := 3, ground := Ground.phase }, { on := 4, ground := Ground.phase }, { on := 5, ground := Ground.phase }, { on := 6, ground := Ground.phase }, { on := 7, ground := Ground.phase }, { on := 8, ground := Ground.phase }, { on := 9, ground := Ground.phase }, { on := 10, ground := Ground.phase }], guard := none }) rfl (fun K hK => ?_) AllReadyH.nil)
                            obtain ⟨z1, z2, z3, z4⟩ := blk2 hQ52.out
                            go_simp
                            try go_wp2_with fail
                            refine hK.out _ _ (below2 hdk52.out hlQ _ _) (fun hHeld => ?_)
                            clear hK K hHeld z1 z2 z3 z4
                            try simp only [Act.put, List.setIfInBounds_toArray, List.set_cons_zero, List.set_cons_succ]
                            obtain ⟨y53, hy⟩ : ∃ y, (y52.setCell ⟨y0.heap.size, 0, none⟩ (.int .i64 (qu : Int))).setCell ⟨y0.heap.size, 1, none⟩ (.int .i64 qb) = y := ⟨_, rfl⟩
                            have hdk53 : Hid (Below wv.heap.size wv y53) := by rw [← hy]; exact hid (below2 hdk52.out hlQ _ _)
                            have hQ53 : Hid (y53.heap[y0.heap.size]? = some (.cells #[.int .i64 (qu : Int), .int .i64 qb] 23 (0, 0))) := by rw [← hy]; exact hid (set2_block hQ52.out _ _)
                            have hP53 : Hid (y53.heap[y45.heap.size]? = some (.cells #[.int .i64 (pu : Int), .int .i64 pb] 23 (0, 0))) := by rw [← hy, Below.heap_setCell _ _ _ _ (by show y45.heap.size ≠ y0.heap.size; omega), Below.heap_setCell _ _ _ _ (by show y45.heap.size ≠ y0.heap.size; omega)]; exact hP52
                            rw [hy]
                            clear hy
                            refine wpAnyH_done (by kernel_rfl) ?_ _
                            refine NoPanic.normal ?_
                            go_wp2_with fail
                            go_meet
                            case rel => exact ⟨_, _, pu, pb, qu, qb, rfl, rfl, hdk53.out, hpu, hpc, hqu, hqc, hP53.out, hQ53.out⟩
                        · skip
                          go_simp
                          refine hK.out _ _ (hdk44.out.alloc hdk44.out.size _) (fun hHeld => ?_)
                          clear hK K hHeld
                          try simp only [Act.put, List.setIfInBounds_toArray, List.set_cons_zero, List.set_cons_succ]
                          obtain ⟨y54, hy⟩ : ∃ y, y44.alloc (.cells #[.int .i64 0, .int .i64 0] 23) = y := ⟨_, rfl⟩
                          have hdk54 : Hid (Below wv.heap.size wv y54) := by rw [← hy]; exact hid (hdk44.out.alloc hdk44.out.size _)
                          have hP54 : Hid (y54.heap[y44.heap.size]? = some (.cells #[.int .i64 0, .int .i64 0] 23 (0, 0))) := by rw [← hy]; exact hid (heap_alloc_new _ _)
                          have hlP : wv.heap.size ≤ y44.heap.size := hdk44.out.size
                          have hQ54 : Hid (y54.heap[y0.heap.size]? = some (.cells #[.int .i64 0, .int .i64 0] 23 (0, 0))) := by rw [← hy]; exact hid (al_keep hQ44.out)
                          have hPQ : y0.heap.size ≠ y44.heap.size := by have := (Array.getElem?_eq_some_iff.1 hQ44.out).1; omega
                          rw [hy]
                          clear hy
                          refine wpAnyH_ready (rs := [3]) (by kernel_rfl) (by simp) ?_
                          refine (AllReadyH.cons (o := { dst := some 98, op := Op.call { callee := Callee.value (Operand.func 10), args := #[Operand.tmp 95, Operand.tmp 97, Operand.const (Value.bool false)], argTypes := #[34, 23, 4] }, type := 23, pos := "law.go:164", after := #[{ on := 0, ground := Ground.data }, { on := 2, ground := Ground.data }], guard := none }) rfl (fun K hK => ?_) AllReadyH.nil)
                          go_simp
                          refine (hcor.out _ _ y54 hdk54.out).mono ?_
                          rintro x y55 ⟨pu, pb, rfl, hpu, hpc, b2⟩
                          replace hpc := hid hpc
                          have hdk55 : Hid (Below wv.heap.size wv y55) := hid (hdk54.out.trans (b2.mono hdk54.out.size))
                          have hP55 := hid ((b2.block _ (Array.getElem?_eq_some_iff.1 hP54.out).1).trans hP54.out)
                          have hQ55 := hid ((b2.block _ (Array.getElem?_eq_some_iff.1 hQ54.out).1).trans hQ54.out)
                          clear b2
                          try go_wp2_with fail
                          refine hK.out _ _ hdk55.out (fun hHeld => ?_)
                          clear hK K hHeld
                          try simp only [Act.put, List.setIfInBounds_toArray, List.set_cons_zero, List.set_cons_succ]
                          refine wpAnyH_ready (rs := [7]) (by kernel_rfl) (by simp) ?_
                          refine (AllReadyH.cons (o := { dst := some 102, op := Op.call { callee := Callee.value (Operand.func 10), args := #[Operand.tmp 99, Operand.tmp 101, Operand.const (Value.bool false)], argTypes := #[34, 23, 4] }, type := 23, pos := "law.go:164", after := #[{ on := 4, ground := Ground.data }, { on := 6, ground := Ground.data }, { on := 3, ground := Ground.chain }], guard := none }) rfl (fun K hK => ?_) AllReadyH.nil)
                          go_simp
                          refine (hcor.out _ _ y55 hdk55.out).mono ?_
                          rintro x y56 ⟨qu, qb, rfl, hqu, hqc, b2⟩
                          replace hqc := hid hqc
                          have hdk56 : Hid (Below wv.heap.size wv y56) := hid (hdk55.out.trans (b2.mono hdk55.out.size))
                          have hP56 := hid ((b2.block _ (Array.getElem?_eq_some_iff.1 hP55.out).1).trans hP55.out)
                          have hQ56 := hid ((b2.block _ (Array.getElem?_eq_some_iff.1 hQ55.out).1).trans hQ55.out)
                          clear b2
                          try go_wp2_with fail
                          refine hK.out _ _ hdk56.out (fun hHeld => ?_)
                          clear hK K hHeld
                          try simp only [Act.put, List.setIfInBounds_toArray, List.set_cons_zero, List.set_cons_succ]
                          refine wpAnyH_ready (rs := [10]) (by kernel_rfl) (by simp) ?_
                          refine (AllReadyH.cons (o := { dst := none, op := Op.store 23 (Operand.tmp 15) (Operand.tmp 98), type := 0, pos := "law.go:164", after := #[{ on := 8, ground := Ground.data }, { on := 3, ground := Ground.data }, { on := 7, ground := Ground.chain }, { on := 0, ground := Ground.phase }, { on := 1, ground := Ground.phase }, { on := 2, ground := Ground.phase }, { on := 3, ground := Ground.phase }, { on := 4, ground := Ground.textOnly Departure.lateStores }, { on := 5, ground := Ground.textOnly Departure.lateStores }, { on := 6, ground := Ground.textOnly Departure.lateStores }, { on := 7, ground := Ground.textOnly Departure.lateStoresUnsure }, { on := 8, ground := Ground.phase }, { on := 9, ground := Ground.phase }], guard := none }) rfl (fun K hK => ?_) AllReadyH.nil)
                          obtain ⟨z1, z2, z3, z4⟩ := blk2 hP56.out
                          go_simp
                          try go_wp2_with fail
                          refine hK.out _ _ (below2 hdk56.out hlP _ _) (fun hHeld => ?_)
                          clear hK K hHeld z1 z2 z3 z4
                          try simp only [Act.put, List.setIfInBounds_toArray, List.set_cons_zero, List.set_cons_succ]
                          obtain ⟨y57, hy⟩ : ∃ y, (y56.setCell ⟨y44.heap.size, 0, none⟩ (.int .i64 (pu : Int))).setCell ⟨y44.heap.size, 1, none⟩ (.int .i64 pb) = y := ⟨_, rfl⟩
                          have hdk57 : Hid (Below wv.heap.size wv y57) := by rw [← hy]; exact hid (below2 hdk56.out hlP _ _)
                          have hP57 : Hid (y57.heap[y44.heap.size]? = some (.cells #[.int .i64 (pu : Int), .int .i64 pb] 23 (0, 0))) := by rw [← hy]; exact hid (set2_block hP56.out _ _)
                          have hQ57 : Hid (y57.heap[y0.heap.size]? = some (.cells #[.int .i64 0, .int .i64 0] 23 (0, 0))) := by rw [← hy, Below.heap_setCell _ _ _ _ (by show y0.heap.size ≠ y44.heap.size; omega), Below.heap_setCell _ _ _ _ (by show y0.heap.size ≠ y44.heap.size; omega)]; exact hQ56
                          rw [hy]
                          clear hy
                          refine wpAnyH_ready (rs := [11]) (by kernel_rfl) (by simp) ?_
                          refine (AllReadyH.cons (o := { dst := none, op := Op.store 23 (Operand.tmp 16) (Operand.tmp 102), type := 0, pos := "law.go:164", after := #[{ on := 9, ground := Ground.data }, { on := 7, ground := Ground.data }, { on := 10, ground := Ground.chain }, { on := 0, ground := Ground.phase }, { on := 1, ground := Ground.phase }, { on := 2, ground := Ground.phase }, { on := 3, ground := Ground.phase }, { on := 4, ground := Ground.phase }, { on := 5, ground := Ground.phase }, { on := 6, ground := Ground.phase }, { on := 7, ground := Ground.phase }, { on := 8, ground := Ground.phase }, { on := 9, ground := Ground.phase }, { on := 10, ground := Ground.phase }], guard := none }) rfl (fun K hK => ?_) AllReadyH.nil)
                          obtain ⟨z1, z2, z3, z4⟩ := blk2 hQ57.out
                          go_simp
                          try go_wp2_with fail
                          refine hK.out _ _ (below2 hdk57.out hlQ _ _) (fun hHeld => ?_)
                          clear hK K hHeld z1 z2 z3 z4
                          try simp only [Act.put, List.setIfInBounds_toArray, List.set_cons_zero, List.set_cons_succ]
                          obtain ⟨y58, hy⟩ : ∃ y, (y57.setCell ⟨y0.heap.size, 0, none⟩ (.int .i64 (qu : Int))).setCell ⟨y0.heap.size, 1, none⟩ (.int .i64 qb) = y := ⟨_, rfl⟩
                          have hdk58 : Hid (Below wv.heap.size wv y58) := by rw [← hy]; exact hid (below2 hdk57.out hlQ _ _)
                          have hQ58 : Hid (y58.heap[y0.heap.size]? = some (.cells #[.int .i64 (qu : Int), .int .i64 qb] 23 (0, 0))) := by rw [← hy]; exact hid (set2_block hQ57.out _ _)
                          have hP58 : Hid (y58.heap[y44.heap.size]? = some (.cells #[.int .i64 (pu : Int), .int .i64 pb] 23 (0, 0))) := by rw [← hy, Below.heap_setCell _ _ _ _ (by show y44.heap.size ≠ y0.heap.size; omega), Below.heap_setCell _ _ _ _ (by show y44.heap.size ≠ y0.heap.size; omega)]; exact hP57
                          rw [hy]
                          clear hy
                          refine wpAnyH_done (by kernel_rfl) ?_ _
                          refine NoPanic.normal ?_
                          go_wp2_with fail
                          go_meet
                          case rel => exact ⟨_, _, pu, pb, qu, qb, rfl, rfl, hdk58.out, hpu, hpc, hqu, hqc, hP58.out, hQ58.out⟩
                    case rest =>
                      obtain ⟨P, Q, pu, pb, qu, qb, rfl, rfl, hc⟩ := hcut
                      clear hcor hcl
                      obtain ⟨hbc, hpu, hpc, hqu, hqc, hP, hQ⟩ := hc.out
                      clear hc
                      have hcl : Hid (∀ y, Below wc.heap.size wc y → y.cell? ⟨P, 0, none⟩ = some (.int .i64 (pu : Int)) ∧ y.cell? ⟨P, 1, none⟩ = some (.int .i64 pb) ∧ y.cell? ⟨Q, 0, none⟩ = some (.int .i64 (qu : Int)) ∧ y.cell? ⟨Q, 1, none⟩ = some (.int .i64 qb)) := hid (fun y hy => by
                        obtain ⟨z1, z2, _, _⟩ := blk2 ((hy.block _ (Array.getElem?_eq_some_iff.1 hP).1).trans hP)
                        obtain ⟨z3, z4, _, _⟩ := blk2 ((hy.block _ (Array.getElem?_eq_some_iff.1 hQ).1).trans hQ)
                        exact ⟨z1, z2, z3, z4⟩)
                      have hkw := hid (hk4.out.more hbc)
                      have kaw : Hid (wc.heap[A]? = some (acb ⟨ak, (e : Int), aa0, aa1, ab0, ab1⟩)) := hid ((hbc.block _ (Array.getElem?_eq_some_iff.1 ka4.out).1).trans ka4.out)
                      replace hpc := hid hpc
                      replace hqc := hid hqc
                      replace hP := hid hP
                      replace hQ := hid hQ
                      clear hbc hk4 ka4
                      obtain ⟨wb, hwb⟩ : ∃ wb, wb = wc := ⟨wc, rfl⟩
                      subst hwb
                      go_upto_region 23 with fail
                      go_cut [17, 18] from 103 to 112 (fun s17 s18 wy => ∃ (P' Q' : Nat), s17 = .pointer (some ⟨P', 0, none⟩) ∧ s18 = .pointer (some ⟨Q', 0, none⟩) ∧ Hid (Below wb.heap.size wb wy ∧ wy.heap[P']? = some (.cells #[.int .i64 (pu : Int), .int .i64 pb] 43 (0, 0)) ∧ wy.heap[Q']? = some (.cells #[.int .i64 (qu : Int), .int .i64 qb] 43 (0, 0))))
                      case first =>
                        refine wp_region_noPanic ?_
                        refine wp_region_held_drew (S := fun y => Below wb.heap.size wb y) (by kernel_rfl) (Below.refl _ _).drew (fun hHeld => ?_)
                        refine takeH (i := 0) (v := ?_) (a' := ?_) ({ dst := some 103, op := Op.indexAddr 23 (Operand.tmp 15) (Operand.const (Value.int IntKind.i64 0)), type := 0, pos := "law.go:165", after := #[], guard := none }) rfl (by kernel_rfl) (by kernel_rfl) (by kernel_rfl) (fun _ _ _ h => h) (by rfl) ?_ (by assumption) ?_ ?_
                        rotate_left 2
                        · (intro w' hSw; obtain ⟨q0, q1, q2, q3⟩ := hcl.out w' hSw; clear hSw; go_simp; try with_reducible rfl)
                        · (simp only [Act.put, List.setIfInBounds_toArray, List.set_cons_zero, List.set_cons_succ]; try rfl)
                        refine takeH (i := 1) (v := ?_) (a' := ?_) ({ dst := some 104, op := Op.load 3 (Operand.tmp 103), type := 3, pos := "law.go:165", after := #[{ on := 0, ground := Ground.data }], guard := none }) rfl (by kernel_rfl) (by kernel_rfl) (by kernel_rfl) (fun _ _ _ h => h) (by rfl) ?_ (by assumption) ?_ ?_
                        rotate_left 2
                        · (intro w' hSw; obtain ⟨q0, q1, q2, q3⟩ := hcl.out w' hSw; clear hSw; go_simp; try with_reducible rfl)
                        · (simp only [Act.put, List.setIfInBounds_toArray, List.set_cons_zero, List.set_cons_succ]; try rfl)
                        refine takeH (i := 2) (v := ?_) (a' := ?_) ({ dst := some 105, op := Op.indexAddr 23 (Operand.tmp 15) (Operand.const (Value.int IntKind.i64 1)), type := 0, pos := "law.go:165", after := #[], guard := none }) rfl (by kernel_rfl) (by kernel_rfl) (by kernel_rfl) (fun _ _ _ h => h) (by rfl) ?_ (by assumption) ?_ ?_
                        rotate_left 2
                        · (intro w' hSw; obtain ⟨q0, q1, q2, q3⟩ := hcl.out w' hSw; clear hSw; go_simp; try with_reducible rfl)
                        · (simp only [Act.put, List.setIfInBounds_toArray, List.set_cons_zero, List.set_cons_succ]; try rfl)
                        refine takeH (i := 3) (v := ?_) (a' := ?_) ({ dst := some 106, op := Op.load 3 (Operand.tmp 105), type := 3, pos := "law.go:165", after := #[{ on := 2, ground := Ground.data }], guard := none }) rfl (by kernel_rfl) (by kernel_rfl) (by kernel_rfl) (fun _ _ _ h => h) (by rfl) ?_ (by assumption) ?_ ?_
                        rotate_left 2
                        · (intro w' hSw; obtain ⟨q0, q1, q2, q3⟩ := hcl.out w' hSw; clear hSw; go_simp; try with_reducible rfl)
                        · (simp only [Act.put, List.setIfInBounds_toArray, List.set_cons_zero, List.set_cons_succ]; try rfl)
                        refine takeH (i := 4) (v := ?_) (a' := ?_) ({ dst := some 107, op := Op.build 43 #[(0, Operand.tmp 104), (1, Operand.tmp 106)], type := 43, pos := "law.go:165", after := #[{ on := 1, ground := Ground.data }, { on := 3, ground := Ground.data }], guard := none }) rfl (by kernel_rfl) (by kernel_rfl) (by kernel_rfl) (fun _ _ _ h => h) (by rfl) ?_ (by assumption) ?_ ?_
                        rotate_left 2
                        · (intro w' hSw; obtain ⟨q0, q1, q2, q3⟩ := hcl.out w' hSw; clear hSw; go_simp; try with_reducible rfl)
                        · (simp only [Act.put, List.setIfInBounds_toArray, List.set_cons_zero, List.set_cons_succ]; try rfl)
                        refine takeH (i := 5) (v := ?_) (a' := ?_) ({ dst := some 108, op := Op.indexAddr 23 (Operand.tmp 16) (Operand.const (Value.int IntKind.i64 0)), type := 0, pos := "law.go:165", after := #[{ on := 12, ground := Ground.gcOnly Departure.lateStores }], guard := none }) rfl (by kernel_rfl) (by kernel_rfl) (by kernel_rfl) (fun _ _ _ h => h) (by rfl) ?_ (by assumption) ?_ ?_
                        rotate_left 2
                        · (intro w' hSw; obtain ⟨q0, q1, q2, q3⟩ := hcl.out w' hSw; clear hSw; go_simp; try with_reducible rfl)
                        · (simp only [Act.put, List.setIfInBounds_toArray, List.set_cons_zero, List.set_cons_succ]; try rfl)
                        refine takeH (i := 6) (v := ?_) (a' := ?_) ({ dst := some 109, op := Op.load 3 (Operand.tmp 108), type := 3, pos := "law.go:165", after := #[{ on := 5, ground := Ground.data }, { on := 12, ground := Ground.gcOnly Departure.lateStores }], guard := none }) rfl (by kernel_rfl) (by kernel_rfl) (by kernel_rfl) (fun _ _ _ h => h) (by rfl) ?_ (by assumption) ?_ ?_
                        rotate_left 2
                        · (intro w' hSw; obtain ⟨q0, q1, q2, q3⟩ := hcl.out w' hSw; clear hSw; go_simp; try with_reducible rfl)
                        · (simp only [Act.put, List.setIfInBounds_toArray, List.set_cons_zero, List.set_cons_succ]; try rfl)
                        refine takeH (i := 7) (v := ?_) (a' := ?_) ({ dst := some 110, op := Op.indexAddr 23 (Operand.tmp 16) (Operand.const (Value.int IntKind.i64 1)), type := 0, pos := "law.go:165", after := #[{ on := 12, ground := Ground.gcOnly Departure.lateStores }], guard := none }) rfl (by kernel_rfl) (by kernel_rfl) (by kernel_rfl) (fun _ _ _ h => h) (by rfl) ?_ (by assumption) ?_ ?_
                        rotate_left 2
                        · (intro w' hSw; obtain ⟨q0, q1, q2, q3⟩ := hcl.out w' hSw; clear hSw; go_simp; try with_reducible rfl)
                        · (simp only [Act.put, List.setIfInBounds_toArray, List.set_cons_zero, List.set_cons_succ]; try rfl)
                        refine takeH (i := 8) (v := ?_) (a' := ?_) ({ dst := some 111, op := Op.load 3 (Operand.tmp 110), type := 3, pos := "law.go:165", after := #[{ on := 7, ground := Ground.data }, { on := 12, ground := Ground.gcOnly Departure.lateStores }], guard := none }) rfl (by kernel_rfl) (by kernel_rfl) (by kernel_rfl) (fun _ _ _ h => h) (by rfl) ?_ (by assumption) ?_ ?_
                        rotate_left 2
                        · (intro w' hSw; obtain ⟨q0, q1, q2, q3⟩ := hcl.out w' hSw; clear hSw; go_simp; try with_reducible rfl)
                        · (simp only [Act.put, List.setIfInBounds_toArray, List.set_cons_zero, List.set_cons_succ]; try rfl)
                        refine takeH (i := 9) (v := ?_) (a' := ?_) ({ dst := some 112, op := Op.build 43 #[(0, Operand.tmp 109), (1, Operand.tmp 111)], type := 43, pos := "law.go:165", after := #[{ on := 6, ground := Ground.data }, { on := 8, ground := Ground.data }, { on := 12, ground := Ground.gcOnly Departure.lateStores }], guard := none }) rfl (by kernel_rfl) (by kernel_rfl) (by kernel_rfl) (fun _ _ _ h => h) (by rfl) ?_ (by assumption) ?_ ?_
                        rotate_left 2
                        · (intro w' hSw; obtain ⟨q0, q1, q2, q3⟩ := hcl.out w' hSw; clear hSw; go_simp; try with_reducible rfl)
                        · (simp only [Act.put, List.setIfInBounds_toArray, List.set_cons_zero, List.set_cons_succ]; try rfl)
                        have hdk0 : Hid (Below wb.heap.size wb wb.drew) := hid (Below.refl _ _).drew
                        clear hHeld
                        generalize wb.drew = y0 at hdk0 ⊢
                        refine wpAnyH_ready (rs := [10, 11]) (by kernel_rfl) (by simp) ?_
                        refine (AllReadyH.cons (o := { dst := some 17, op := Op.alloc 43, type := 0, pos := "law.go:165", after := #[], guard := none }) rfl (fun K hK => ?_) (AllReadyH.cons (o := { dst := some 18, op := Op.alloc 43, type := 0, pos := "law.go:165", after := #[], guard := none }) rfl (fun K hK => ?_) AllReadyH.nil))
                        · skip
                          go_simp
                          refine hK.out _ _ (hdk0.out.alloc hdk0.out.size _) (fun hHeld => ?_)
                          clear hK K hHeld
                          try simp only [Act.put, List.setIfInBounds_toArray, List.set_cons_zero, List.set_cons_succ]
                          obtain ⟨y1, hy⟩ : ∃ y, y0.alloc (.cells #[.int .i64 0, .int .i64 0] 43) = y := ⟨_, rfl⟩
                          have hdk1 : Hid (Below wb.heap.size wb y1) := by rw [← hy]; exact hid (hdk0.out.alloc hdk0.out.size _)
                          have hP1 : Hid (y1.heap[y0.heap.size]? = some (.cells #[.int .i64 0, .int .i64 0] 43 (0, 0))) := by rw [← hy]; exact hid (heap_alloc_new _ _)
                          have hlP : wb.heap.size ≤ y0.heap.size := hdk0.out.size
                          rw [hy]
                          clear hy
                          refine wpAnyH_ready (rs := [11]) (by kernel_rfl) (by simp) ?_
                          refine (AllReadyH.cons (o := { dst := some 18, op := Op.alloc 43, type := 0, pos := "law.go:165", after := #[], guard := none }) rfl (fun K hK => ?_) AllReadyH.nil)
                          go_simp
                          refine hK.out _ _ (hdk1.out.alloc hdk1.out.size _) (fun hHeld => ?_)
                          clear hK K hHeld
                          try simp only [Act.put, List.setIfInBounds_toArray, List.set_cons_zero, List.set_cons_succ]
                          obtain ⟨y2, hy⟩ : ∃ y, y1.alloc (.cells #[.int .i64 0, .int .i64 0] 43) = y := ⟨_, rfl⟩
                          have hdk2 : Hid (Below wb.heap.size wb y2) := by rw [← hy]; exact hid (hdk1.out.alloc hdk1.out.size _)
                          have hQ2 : Hid (y2.heap[y1.heap.size]? = some (.cells #[.int .i64 0, .int .i64 0] 43 (0, 0))) := by rw [← hy]; exact hid (heap_alloc_new _ _)
                          have hlQ : wb.heap.size ≤ y1.heap.size := hdk1.out.size
                          have hP2 : Hid (y2.heap[y0.heap.size]? = some (.cells #[.int .i64 0, .int .i64 0] 43 (0, 0))) := by rw [← hy]; exact hid (al_keep hP1.out)
                          have hPQ : y0.heap.size ≠ y1.heap.size := by have := (Array.getElem?_eq_some_iff.1 hP1.out).1; omega
                          rw [hy]
                          clear hy
                          refine wpAnyH_ready (rs := [12]) (by kernel_rfl) (by simp) ?_
                          refine (AllReadyH.cons (o := { dst := none, op := Op.store 43 (Operand.tmp 17) (Operand.tmp 107), type := 0, pos := "law.go:165", after := #[{ on := 10, ground := Ground.data }, { on := 4, ground := Ground.data }, { on := 0, ground := Ground.phase }, { on := 1, ground := Ground.phase }, { on := 2, ground := Ground.phase }, { on := 3, ground := Ground.phase }, { on := 4, ground := Ground.phase }, { on := 5, ground := Ground.textOnly Departure.lateStores }, { on := 6, ground := Ground.textOnly Departure.lateStores }, { on := 7, ground := Ground.textOnly Departure.lateStores }, { on := 8, ground := Ground.textOnly Departure.lateStores }, { on := 9, ground := Ground.textOnly Departure.lateStores }, { on := 10, ground := Ground.phase }, { on := 11, ground := Ground.phase }], guard := none }) rfl (fun K hK => ?_) AllReadyH.nil)
                          obtain ⟨z1, z2, z3, z4⟩ := blk2 hP2.out
                          go_simp
                          try go_wp2_with fail
                          refine hK.out _ _ (below2 hdk2.out hlP _ _) (fun hHeld => ?_)
                          clear hK K hHeld z1 z2 z3 z4
                          try simp only [Act.put, List.setIfInBounds_toArray, List.set_cons_zero, List.set_cons_succ]
                          obtain ⟨y3, hy⟩ : ∃ y, (y2.setCell ⟨y0.heap.size, 0, none⟩ (.int .i64 (pu : Int))).setCell ⟨y0.heap.size, 1, none⟩ (.int .i64 pb) = y := ⟨_, rfl⟩
                          have hdk3 : Hid (Below wb.heap.size wb y3) := by rw [← hy]; exact hid (below2 hdk2.out hlP _ _)
                          have hP3 : Hid (y3.heap[y0.heap.size]? = some (.cells #[.int .i64 (pu : Int), .int .i64 pb] 43 (0, 0))) := by rw [← hy]; exact hid (set2_block hP2.out _ _)
                          have hQ3 : Hid (y3.heap[y1.heap.size]? = some (.cells #[.int .i64 0, .int .i64 0] 43 (0, 0))) := by rw [← hy, Below.heap_setCell _ _ _ _ (by show y1.heap.size ≠ y0.heap.size; omega), Below.heap_setCell _ _ _ _ (by show y1.heap.size ≠ y0.heap.size; omega)]; exact hQ2
                          rw [hy]
                          clear hy
                          refine wpAnyH_ready (rs := [13]) (by kernel_rfl) (by simp) ?_
                          refine (AllReadyH.cons (o := { dst := none, op := Op.store 43 (Operand.tmp 18) (Operand.tmp 112), type := 0, pos := "law.go:165", after := #[{ on := 11, ground := Ground.data }, { on := 9, ground := Ground.data }, { on := 12, ground := Ground.chain }, { on := 0, ground := Ground.phase }, { on := 1, ground := Ground.phase }, { on := 2, ground := Ground.phase }, { on := 3, ground := Ground.phase }, { on := 4, ground := Ground.phase }, { on := 5, ground := Ground.phase }, { on := 6, ground := Ground.phase }, { on := 7, ground := Ground.phase }, { on := 8, ground := Ground.phase }, { on := 9, ground := Ground.phase }, { on := 10, ground := Ground.phase }, { on := 11, ground := Ground.phase }, { on := 12, ground := Ground.phase }], guard := none }) rfl (fun K hK => ?_) AllReadyH.nil)
                          obtain ⟨z1, z2, z3, z4⟩ := blk2 hQ3.out
                          go_simp
                          try go_wp2_with fail
                          refine hK.out _ _ (below2 hdk3.out hlQ _ _) (fun hHeld => ?_)
                          clear hK K hHeld z1 z2 z3 z4
                          try simp only [Act.put, List.setIfInBounds_toArray, List.set_cons_zero, List.set_cons_succ]
                          obtain ⟨y4, hy⟩ : ∃ y, (y3.setCell ⟨y1.heap.size, 0, none⟩ (.int .i64 (qu : Int))).setCell ⟨y1.heap.size, 1, none⟩ (.int .i64 qb) = y := ⟨_, rfl⟩
                          have hdk4 : Hid (Below wb.heap.size wb y4) := by rw [← hy]; exact hid (below2 hdk3.out hlQ _ _)
                          have hQ4 : Hid (y4.heap[y1.heap.size]? = some (.cells #[.int .i64 (qu : Int), .int .i64 qb] 43 (0, 0))) := by rw [← hy]; exact hid (set2_block hQ3.out _ _)
                          have hP4 : Hid (y4.heap[y0.heap.size]? = some (.cells #[.int .i64 (pu : Int), .int .i64 pb] 43 (0, 0))) := by rw [← hy, Below.heap_setCell _ _ _ _ (by show y0.heap.size ≠ y1.heap.size; omega), Below.heap_setCell _ _ _ _ (by show y0.heap.size ≠ y1.heap.size; omega)]; exact hP3
                          rw [hy]
                          clear hy
                          refine wpAnyH_done (by kernel_rfl) ?_ _
                          refine NoPanic.normal ?_
                          go_wp2_with fail
                          go_meet
                          case rel => exact ⟨_, _, rfl, rfl, hdk4.out, hP4.out, hQ4.out⟩
                        · skip
                          go_simp
                          refine hK.out _ _ (hdk0.out.alloc hdk0.out.size _) (fun hHeld => ?_)
                          clear hK K hHeld
                          try simp only [Act.put, List.setIfInBounds_toArray, List.set_cons_zero, List.set_cons_succ]
                          obtain ⟨y5, hy⟩ : ∃ y, y0.alloc (.cells #[.int .i64 0, .int .i64 0] 43) = y := ⟨_, rfl⟩
                          have hdk5 : Hid (Below wb.heap.size wb y5) := by rw [← hy]; exact hid (hdk0.out.alloc hdk0.out.size _)
                          have hQ5 : Hid (y5.heap[y0.heap.size]? = some (.cells #[.int .i64 0, .int .i64 0] 43 (0, 0))) := by rw [← hy]; exact hid (heap_alloc_new _ _)
                          have hlQ : wb.heap.size ≤ y0.heap.size := hdk0.out.size
                          rw [hy]
                          clear hy
                          refine wpAnyH_ready (rs := [10]) (by kernel_rfl) (by simp) ?_
                          refine (AllReadyH.cons (o := { dst := some 17, op := Op.alloc 43, type := 0, pos := "law.go:165", after := #[], guard := none }) rfl (fun K hK => ?_) AllReadyH.nil)
                          go_simp
                          refine hK.out _ _ (hdk5.out.alloc hdk5.out.size _) (fun hHeld => ?_)
                          clear hK K hHeld
                          try simp only [Act.put, List.setIfInBounds_toArray, List.set_cons_zero, List.set_cons_succ]
                          obtain ⟨y6, hy⟩ : ∃ y, y5.alloc (.cells #[.int .i64 0, .int .i64 0] 43) = y := ⟨_, rfl⟩
                          have hdk6 : Hid (Below wb.heap.size wb y6) := by rw [← hy]; exact hid (hdk5.out.alloc hdk5.out.size _)
                          have hP6 : Hid (y6.heap[y5.heap.size]? = some (.cells #[.int .i64 0, .int .i64 0] 43 (0, 0))) := by rw [← hy]; exact hid (heap_alloc_new _ _)
                          have hlP : wb.heap.size ≤ y5.heap.size := hdk5.out.size
                          have hQ6 : Hid (y6.heap[y0.heap.size]? = some (.cells #[.int .i64 0, .int .i64 0] 43 (0, 0))) := by rw [← hy]; exact hid (al_keep hQ5.out)
                          have hPQ : y0.heap.size ≠ y5.heap.size := by have := (Array.getElem?_eq_some_iff.1 hQ5.out).1; omega
                          rw [hy]
                          clear hy
                          refine wpAnyH_ready (rs := [12]) (by kernel_rfl) (by simp) ?_
                          refine (AllReadyH.cons (o := { dst := none, op := Op.store 43 (Operand.tmp 17) (Operand.tmp 107), type := 0, pos := "law.go:165", after := #[{ on := 10, ground := Ground.data }, { on := 4, ground := Ground.data }, { on := 0, ground := Ground.phase }, { on := 1, ground := Ground.phase }, { on := 2, ground := Ground.phase }, { on := 3, ground := Ground.phase }, { on := 4, ground := Ground.phase }, { on := 5, ground := Ground.textOnly Departure.lateStores }, { on := 6, ground := Ground.textOnly Departure.lateStores }, { on := 7, ground := Ground.textOnly Departure.lateStores }, { on := 8, ground := Ground.textOnly Departure.lateStores }, { on := 9, ground := Ground.textOnly Departure.lateStores }, { on := 10, ground := Ground.phase }, { on := 11, ground := Ground.phase }], guard := none }) rfl (fun K hK => ?_) AllReadyH.nil)
                          obtain ⟨z1, z2, z3, z4⟩ := blk2 hP6.out
                          go_simp
                          try go_wp2_with fail
                          refine hK.out _ _ (below2 hdk6.out hlP _ _) (fun hHeld => ?_)
                          clear hK K hHeld z1 z2 z3 z4
                          try simp only [Act.put, List.setIfInBounds_toArray, List.set_cons_zero, List.set_cons_succ]
                          obtain ⟨y7, hy⟩ : ∃ y, (y6.setCell ⟨y5.heap.size, 0, none⟩ (.int .i64 (pu : Int))).setCell ⟨y5.heap.size, 1, none⟩ (.int .i64 pb) = y := ⟨_, rfl⟩
                          have hdk7 : Hid (Below wb.heap.size wb y7) := by rw [← hy]; exact hid (below2 hdk6.out hlP _ _)
                          have hP7 : Hid (y7.heap[y5.heap.size]? = some (.cells #[.int .i64 (pu : Int), .int .i64 pb] 43 (0, 0))) := by rw [← hy]; exact hid (set2_block hP6.out _ _)
                          have hQ7 : Hid (y7.heap[y0.heap.size]? = some (.cells #[.int .i64 0, .int .i64 0] 43 (0, 0))) := by rw [← hy, Below.heap_setCell _ _ _ _ (by show y0.heap.size ≠ y5.heap.size; omega), Below.heap_setCell _ _ _ _ (by show y0.heap.size ≠ y5.heap.size; omega)]; exact hQ6
                          rw [hy]
                          clear hy
                          refine wpAnyH_ready (rs := [13]) (by kernel_rfl) (by simp) ?_
                          refine (AllReadyH.cons (o := { dst := none, op := Op.store 43 (Operand.tmp 18) (Operand.tmp 112), type := 0, pos := "law.go:165", after := #[{ on := 11, ground := Ground.data }, { on := 9, ground := Ground.data }, { on := 12, ground := Ground.chain }, { on := 0, ground := Ground.phase }, { on := 1, ground := Ground.phase }, { on := 2, ground := Ground.phase }, { on := 3, ground := Ground.phase }, { on := 4, ground := Ground.phase }, { on := 5, ground := Ground.phase }, { on := 6, ground := Ground.phase }, { on := 7, ground := Ground.phase }, { on := 8, ground := Ground.phase }, { on := 9, ground := Ground.phase }, { on := 10, ground := Ground.phase }, { on := 11, ground := Ground.phase }, { on := 12, ground := Ground.phase }], guard := none }) rfl (fun K hK => ?_) AllReadyH.nil)
                          obtain ⟨z1, z2, z3, z4⟩ := blk2 hQ7.out
                          go_simp
                          try go_wp2_with fail
                          refine hK.out _ _ (below2 hdk7.out hlQ _ _) (fun hHeld => ?_)
                          clear hK K hHeld z1 z2 z3 z4
                          try simp only [Act.put, List.setIfInBounds_toArray, List.set_cons_zero, List.set_cons_succ]
                          obtain ⟨y8, hy⟩ : ∃ y, (y7.setCell ⟨y0.heap.size, 0, none⟩ (.int .i64 (qu : Int))).setCell ⟨y0.heap.size, 1, none⟩ (.int .i64 qb) = y := ⟨_, rfl⟩
                          have hdk8 : Hid (Below wb.heap.size wb y8) := by rw [← hy]; exact hid (below2 hdk7.out hlQ _ _)
                          have hQ8 : Hid (y8.heap[y0.heap.size]? = some (.cells #[.int .i64 (qu : Int), .int .i64 qb] 43 (0, 0))) := by rw [← hy]; exact hid (set2_block hQ7.out _ _)
                          have hP8 : Hid (y8.heap[y5.heap.size]? = some (.cells #[.int .i64 (pu : Int), .int .i64 pb] 43 (0, 0))) := by rw [← hy, Below.heap_setCell _ _ _ _ (by show y5.heap.size ≠ y0.heap.size; omega), Below.heap_setCell _ _ _ _ (by show y5.heap.size ≠ y0.heap.size; omega)]; exact hP7
                          rw [hy]
                          clear hy
                          refine wpAnyH_done (by kernel_rfl) ?_ _
                          refine NoPanic.normal ?_
                          go_wp2_with fail
                          go_meet
                          case rel => exact ⟨_, _, rfl, rfl, hdk8.out, hP8.out, hQ8.out⟩
                      case rest =>
                        obtain ⟨P', Q', rfl, rfl, hc⟩ := hcut
                        obtain ⟨hbc, hP', hQ'⟩ := hc.out
                        have hkz := hid (hkw.out.more hbc)
                        have kaz := (hbc.block _ (Array.getElem?_eq_some_iff.1 kaw.out).1).trans kaw.out
                        have hPz := (hbc.block _ (Array.getElem?_eq_some_iff.1 hP.out).1).trans hP.out
                        have hQz := (hbc.block _ (Array.getElem?_eq_some_iff.1 hQ.out).1).trans hQ.out
                        have hblk : Hid (∀ y, Kp w.heap.size wc y → (y.cell? ⟨A, 1, none⟩ = some (.int .i64 (e : Int))) ∧ (y.cell? ⟨P, 0, none⟩ = some (.int .i64 (pu : Int)) ∧ y.cell? ⟨P, 1, none⟩ = some (.int .i64 pb)) ∧ (y.cell? ⟨Q, 0, none⟩ = some (.int .i64 (qu : Int)) ∧ y.cell? ⟨Q, 1, none⟩ = some (.int .i64 qb)) ∧ (y.cell? ⟨P', 0, none⟩ = some (.int .i64 (pu : Int)) ∧ y.cell? ⟨P', 1, none⟩ = some (.int .i64 pb)) ∧ (y.cell? ⟨Q', 0, none⟩ = some (.int .i64 (qu : Int)) ∧ y.cell? ⟨Q', 1, none⟩ = some (.int .i64 qb))) := hid (fun y hy => by
                          obtain ⟨⟨_, z1, _⟩, _⟩ := acb_all (kp_of kaz hy)
                          obtain ⟨a1, a2, _, _⟩ := blk2 (kp_pair hPz hy (by decide) (by decide) (by decide))
                          obtain ⟨a3, a4, _, _⟩ := blk2 (kp_pair hQz hy (by decide) (by decide) (by decide))
                          obtain ⟨a5, a6, _, _⟩ := blk2 (kp_pair hP' hy (by decide) (by decide) (by decide))
                          obtain ⟨a7, a8, _, _⟩ := blk2 (kp_pair hQ' hy (by decide) (by decide) (by decide))
                          exact ⟨z1, ⟨a1, a2⟩, ⟨a3, a4⟩, ⟨a5, a6⟩, a7, a8⟩)
                        obtain ⟨⟨tn', tw', in0, in1⟩, hxx, hback⟩ := lay_way htn.out htw.out he8 hpu hqu hpc.out hqc.out hno hkz.out.xi
                        obtain ⟨s, hs⟩ : ∃ s : Bool, s = true ↔ lb j 8 R pu ≠ lb j 8 R qu ∨ One j R pu qu (co pb) (co qb) := by classical exact ⟨decide (lb j 8 R pu ≠ lb j 8 R qu ∨ One j R pu qu (co pb) (co qb)), by simp⟩
                        have hleg := hid (slegal_ok hkz.out.ls.ta htw.out (by decide) pu qu hpu hqu pb qb s hpc.out hqc.out hs)
                        have hlay := hid (fun y (hy : TA y w.heap.size tb j 8 R) => lay_ok hy e pu qu pb qb he8 hno hno1 hpc.out hqc.out)
                        have hrla := hid (fun y xv (hx : RT y xv 8 j R) => rlay_ok xv 8 j e pu qu pb qb R y hx htn.out he8 hpu hqu (by decide) (by omega) hno hpc.out hqc.out)
                        have hs2 : s = true ↔ Xi j 8 (layR R e pu qu (co pb) (co qb)) = 0 := hs.trans hxx.symm
                        have hls2 := hid (htn.out.lay htw.out he8 hpu hqu hpc.out.mem hqc.out.mem hno)
                        obtain ⟨R', hR'⟩ : ∃ R', layR R e pu qu (co pb) (co qb) = R' := ⟨_, rfl⟩
                        rw [hR'] at tn' tw' in0 in1 hback hlay hrla hs2
                        replace tn' := hid tn'
                        replace tw' := hid tw'
                        replace hback := hid hback
                        replace hs2 := hid hs2
                        have hflat := hid (fun y (hy : TA y w.heap.size tb j 8 R') (hn : NL y u11 (List.range j)) => sflat_all hy tw'.out (by decide) hV1 (by omega) u11 hn.rn s hs2.out)
                        have hlif := hid (fun y (hy : TA y w.heap.size tb j 8 R') => lift_ok hy e he8 in0 in1)
                        have htl := hid (tn'.out.lift tw'.out (e := e))
                        obtain ⟨z0, ⟨z1, z2⟩, ⟨z3, z4⟩, ⟨z5, z6⟩, z7, z8⟩ := hblk.out _ (Kp.refl _ _)
                        replace hs := hid hs
                        clear hc hbc hP' hQ' hP hQ hPz hQz kaz kaw hkw hcl hR' hxx in0 in1 hno hno1 hpc hqc hls2
                        go_wp2_with fail
                        refine hleg.out.mono ?_
                        rintro x w5 ⟨rfl, b5⟩
                        have hk5 := hid (hkz.out.more b5)
                        have kq5 : Hid (Kp w.heap.size wc w5) := hid (Kp.ofBelow b5 _)
                        clear b5 hleg z0 z1 z2 z3 z4 z5 z6 z7 z8
                        obtain ⟨z0, ⟨z1, z2⟩, ⟨z3, z4⟩, ⟨z5, z6⟩, z7, z8⟩ := hblk.out _ kq5.out
                        go_wp2_with fail
                        refine (hlay.out w5 hk5.out.ls.ta).mono ?_
                        rintro x w6 ⟨rfl, t6, kp6⟩
                        have hn6 := hid (hk5.out.nl.al kp6.al)
                        have kq6 : Hid (Kp w.heap.size wc w6) := hid (kq5.out.trans kp6)
                        replace kp6 := hid kp6
                        replace t6 := hid t6
                        clear hlay z0 z1 z2 z3 z4 z5 z6 z7 z8
                        go_wp2_with fail
                        refine (hflat.out w6 t6.out hn6.out).mono ?_
                        rintro x w7 ⟨rfl, b7⟩
                        have t7 := hid (t6.out.more b7)
                        have kp7 : Hid (Kp w.heap.size w5 w7) := hid (kp6.out.trans (Kp.ofBelow b7 _))
                        have kq7 : Hid (Kp w.heap.size wc w7) := hid (kq6.out.trans (Kp.ofBelow b7 _))
                        clear b7 t6 kp6 kq6 hn6 hflat kq5 hkz
                        obtain ⟨z0, ⟨z1, z2⟩, ⟨z3, z4⟩, ⟨z5, z6⟩, z7, z8⟩ := hblk.out _ kq7.out
                        cases s with
                        | true =>
                          have hxi := hid (hs2.out.1 rfl)
                          obtain ⟨ad', cap', hrt, c0, c1⟩ := hk5.out.ls.rt
                          have hrt7 := hrt.al kp7.out.al
                          have hrl := hid (hrla.out w7 _ hrt7)
                          have hg7 : w7.heap[g]? = some (.cells #[.int .i64 8, .slice ad' j cap'] 34 (0, 0)) := by
                            obtain ⟨ad0, cap0, _, h2, _⟩ := hk5.out.ls
                            obtain ⟨y0, y1, _, _⟩ := blk2 h2
                            rw [y1] at c1
                            cases c1
                            exact kp_pair h2 kp7.out (by decide) (by decide) (by decide)
                          obtain ⟨g0, g1, _, _⟩ := blk2 hg7
                          replace hg7 := hid hg7
                          clear hrt hrt7 c0 c1 hrla
                          go_wp2_with fail
                          refine hrl.out.mono ?_
                          rintro x w8 ⟨tv, rfl, ⟨lv, rfl, hnr⟩, b8⟩
                          obtain ⟨ad6, cap6, rfl, _⟩ := id hnr
                          have hg8 := (b8.block _ (Array.getElem?_eq_some_iff.1 hg7.out).1).trans hg7.out
                          obtain ⟨y0, y1, f0, f1⟩ := blk2 hg8
                          have hfin := hid (hk5.out.turn kp7.out t7.out b8 ⟨_, rfl, hnr⟩ tw'.out hxi.out)
                          clear hg8 hnr b8 g0 g1 hrl z0 z1 z2 z3 z4 z5 z6 z7 z8
                          go_wp2_with fail
                          go_meet
                          case rel => exact ⟨_, hfin⟩
                        | false =>
                          go_wp2_with fail
                          refine (hlif.out w7 t7.out).mono ?_
                          rintro x w8 ⟨rfl, t8, kp8⟩
                          have hfin := hid (hk5.out.same (kp7.out.trans kp8) t8 hback.out htl.out.2.1)
                          clear t8 kp8 z0 z1 z2 z3 z4 z5 z6 z7 z8
                          go_wp2_with fail
                          go_meet
                          case rel => exact ⟨_, hfin⟩
                case rest =>
                  obtain ⟨R', hkr⟩ := hcut
                  have hfl := hid (sflat_all hkr.out.ls.ta hkr.out.ls.tw (by decide) hV1 (by omega) u11 hkr.out.nl.rn true (by simp [hkr.out.xi]))
                  clear hk4 ka4
                  go_wp2_with fail
                  refine hfl.out.mono ?_
                  rintro x w9 ⟨rfl, b9⟩
                  have hk9 := hid (hkr.out.more b9)
                  clear b9 hkr hfl
                  go_wp2_with fail
                  go_roundw
                  case rel => exact ⟨i + 1, R', by omega, by omega, by go_num, hk9⟩
                  case measure => simp [intOf]; omega
        · have hbl := hid hks.out.ls.bel
          have hway : (decide ((i : Int) ≤ (m : Int)) = false ∧ decide (i ≤ m) = false) ∨ ((decide ((i : Int) ≤ (m : Int)) = true ∧ decide (i ≤ m) = true) ∧ decide ((i : Int) < 40) = false ∧ decide (i < 40) = false) := by
            by_cases q : i ≤ m
            · exact .inr ⟨⟨decide_eq_true (by omega), decide_eq_true (by omega)⟩, decide_eq_false (by omega), decide_eq_false (by omega)⟩
            · exact .inl ⟨decide_eq_false (by omega), decide_eq_false (by omega)⟩
          clear hks hlt
          rcases hway with ⟨v1, v1'⟩ | ⟨⟨v1, v1'⟩, v2, v2'⟩
          all_goals
            go_wp2_with fail
            refine (hsu.out _).mono ?_
            rintro x w9 ⟨rfl, b9⟩
            have hb9 := hid (hbl.out.trans (b9.mono hbl.out.size))
            clear b9
            go_wp2_with fail
            go_ret
            exact ⟨rfl, hb9.out⟩
end Go.Proofs.Ytegljhbjjdfhiaa
