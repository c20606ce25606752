/- 'descend' and 'seek', walked: a way down that a closure tells. 'Least' and 'Most', walked. 'first', 'Least' and 'Most', walked. 'New', walked. -/
import Derived.Test.YtdmkbcbgjdmgdaaGreatDoorCtApi6
import Derived.Handy
namespace Go.Proofs.YtdmkbcbgjdmgdaaGreatDoor.Ct
open Go.RowKit
set_option linter.unusedVariables false

theorem Inv.up_ne {T : Tb} {v : Nat → Int} {sub seq : Nat → List Nat} (h : Inv T v sub seq) {x : Nat} (hx : x ≠ 0) : (T x).up ≠ x := fun e => by
  have := h.up_lt hx (by rw [e]; exact hx)
  rw [e] at this
  omega

theorem Stl.self {x : Nat} {T T' : Tb} {sub sub' : Nat → List Nat} {v : Nat → Int} {seq : Nat → List Nat} (s : Stl x T sub T' sub') (h : Inv T v sub seq) (hx : x ≠ 0) : sub' x = sub x := s.s x (fun _ => h.up_ne hx)

theorem Inv.flat {T : Tb} {v : Nat → Int} {sub seq : Nat → List Nat} (h : Inv T v sub seq) {x : Nat} (hx : x ≠ 0) (ht : (T x).t = false) : sub x = sub ((T x).k false) ++ x :: sub ((T x).k true) := by
  have := h.eqn x hx false
  rw [ht] at this
  exact this

def FBox (w : World) (b fb : Nat) : Prop := w.heap[b]? = some (.cells #[.pointer (some ⟨fb, 0, none⟩)] 67 (0, 0))

theorem FBox.keep {w w' : World} {b fb : Nat} (h : FBox w b fb) (k : Keep w w') : FBox w' b fb := k b _ _ _ h (by decide) (by decide)
theorem FBox.cell {w : World} {b fb : Nat} (h : FBox w b fb) : w.cell? ⟨b, 0, none⟩ = some (.pointer (some ⟨fb, 0, none⟩)) := by unfold World.cell?; rw [h]; simp

section
variable {lo fb n nb N : Nat} {w w0 wr : World} {T : Tb} {v : Nat → Int} {sub seq : Nat → List Nat} {pp par : Nat → Nat} {adj : Nat → Nat → Prop}

theorem HS.re (h : HS lo w w0 fb n nb N T v sub seq pp par adj wr) : HS lo w wr fb n nb N T v sub seq pp par adj wr := ⟨h.fo, h.lc, h.he, h.hN, h.nlo, h.flo, h.below, h.n1, h.n2, h.lw, Keep.refl _⟩

theorem HS.back {w1 : World} (h : HS lo w w1 fb n nb N T v sub seq pp par adj wr) (k : Keep w0 w1) : HS lo w w0 fb n nb N T v sub seq pp par adj wr := ⟨h.fo, h.lc, h.he, h.hN, h.nlo, h.flo, h.below, h.n1, h.n2, h.lw, k.trans h.keep⟩
end

set_option maxRecDepth 100000 in
set_option maxHeartbeats 1000000 in
theorem descend_fst (c1 c2 c3 : Value) (fb nb n N : Nat) (v : Nat → Int) (seq : Nat → List Nat) (pp par : Nat → Nat) (adj : Nat → Nat → Prop) (lo : Nat) (w w0 : World) (J Fin : Tb → (Nat → List Nat) → Nat → World → Prop)
    (hset : ∀ T sub T' sub' x y y', HS lo w w0 fb n nb N T v sub seq pp par adj y → J T sub x y → x ≠ 0 → Mv N v seq x T sub T' sub' → Stl x T sub T' sub' → Turned (fun k => k = nb) y y' → HS lo w w0 fb n nb N T' v sub' seq pp par adj y' → J T' sub' x y')
    (hcall : ∀ T sub x y, HS lo w w0 fb n nb N T v sub seq pp par adj y → J T sub x y → x ≠ 0 → x < N → (T x).t = false → Calls Tryz.prog 102 #[.int .i32 (x : Int), c1, c2, c3] y fun e w' => ∃ c : Int, e = .returned (.int .i64 c) ∧ HS lo w w0 fb n nb N T v sub seq pp par adj w' ∧ ((c = 2 ∧ Fin T sub x w') ∨ (∃ s : Bool, c = sI s ∧ ((T x).k s = 0 → Fin T sub x w') ∧ ((T x).k s ≠ 0 → J T sub ((T x).k s) w'))))
    (x : Nat) (T : Tb) (sub : Nat → List Nat) (wr : World) (h : HS lo w w0 fb n nb N T v sub seq pp par adj wr) (hx0 : x ≠ 0) (hx : x < N) (hJ : J T sub x wr) :
    Calls Tryz.prog 126 #[.pointer (some ⟨fb, 0, none⟩), .int .i32 (x : Int), .func (.func 102) #[] #[c1, c2, c3]] wr fun e w' => ∃ (x' : Nat) (T' : Tb) (sub' : Nat → List Nat), e = .returned (.int .i32 (x' : Int)) ∧ x' ≠ 0 ∧ x' < N ∧ HS lo w w0 fb n nb N T' v sub' seq pp par adj w' ∧ (T' x').t = false ∧ Fin T' sub' x' w' := by
  have hbig := h.fo.big
  have hset := hid hset
  have hcall := hid hcall
  have st : Hid (∃ T1 sub1, x ≠ 0 ∧ x < N ∧ HS lo w w0 fb n nb N T1 v sub1 seq pp par adj wr ∧ J T1 sub1 x wr) := ⟨T, sub, hx0, hx, h, hJ⟩
  clear h hx0 hx hJ
  go_enter Tryz.func126, Tryz.ntmps126
  go_wp2_with fail
  go_loopw [1, 7] (fun a _ wr => ∃ x : Nat, a = .int .i32 (x : Int) ∧ Hid (∃ T1 sub1, x ≠ 0 ∧ x < N ∧ HS lo w w0 fb n nb N T1 v sub1 seq pp par adj wr ∧ J T1 sub1 x wr)) (fun a _ wr => ml nb a wr)
  case atStart => exact ⟨x, rfl, st⟩
  case round =>
    clear st
    obtain ⟨x, rfl, hst⟩ := hrel
    obtain ⟨T1, sub1, hx0, hx, h1, hJ⟩ := hst.out
    have hms := hid (ml_is h1.fo h1.lc.gd hx)
    have q1 : (0 : Int) ≤ (x : Int) := by omega
    have q2 : (x : Int) < (N : Int) := by omega
    have h1 := hid h1
    have hJ := hid hJ
    have hx0 := hid hx0
    clear hst
    go_wp2_with fail
    refine (settle_gd fb nb n x _ h1.out.fo h1.out.lc.gd hx).mono ?_
    rintro e w2 ⟨rfl, T2, sub2, f2, m2, s2, t2⟩
    have h2 := hid (h1.out.turn f2 (h1.out.lc.of m2.gd) h1.out.he t2)
    have hJ2 := hid (hset.out T1 sub1 T2 sub2 x _ _ h1.out hJ.out hx0.out m2 s2 t2 h2.out)
    have hlen := hid (s2.len x)
    have htt := hid s2.t
    clear f2 m2 s2 t2 h1 hJ
    go_wp2_with fail
    refine (hcall.out T2 sub2 x _ h2.out hJ2.out hx0.out hx htt.out).mono ?_
    rintro e w3 ⟨c, rfl, h3, hc⟩
    have h3 := hid h3
    have c1 := h3.out.fo.c1
    have cl : w3.cell? ⟨nb, x * 9 + 6, none⟩ = some (.int .i32 ((T2 x).l : Int)) := h3.out.fo.l hx
    have cr : w3.cell? ⟨nb, x * 9 + 6 + 1, none⟩ = some (.int .i32 ((T2 x).r : Int)) := h3.out.fo.r hx
    clear h2 hJ2
    rcases hc with ⟨rfl, hF⟩ | ⟨s, rfl, hF, hG⟩
    · have hF := hid hF
      clear c1 cl cr
      go_wp2_with fail
      go_ret
      exact ⟨x, T2, sub2, rfl, hx0.out, hx, h3.out, htt.out, hF.out⟩
    · have hFh := hid hF
      have hGh := hid hG
      clear hF hG
      obtain ⟨K, hK⟩ : ∃ K, (T2 x).k s = K := ⟨_, rfl⟩
      have hKN := h3.out.lc.gd.k_lt x s
      have hlt := h3.out.lc.gd.inv.kid_lt hx0.out s
      rw [hK] at hKN hlt hFh hGh
      cases s
      all_goals
        first | rw [show sI false = 0 from rfl] | rw [show sI true = 1 from rfl]
        first | rw [show (T2 x).l = K from hK] at cl | rw [show (T2 x).r = K from hK] at cr
        by_cases hK0 : K = 0
        · subst hK0
          have fin := hid (hFh.out rfl)
          clear hFh hGh hK
          go_wp2_with fail
          go_ret
          exact ⟨x, T2, sub2, rfl, hx0.out, hx, h3.out, htt.out, fin.out⟩
        · have tk : ((K : Int) == 0) = false := by simp; omega
          have hJ3 := hid (hGh.out hK0)
          have hK0h := hid hK0
          have hms2 := hid (ml_is h3.out.fo h3.out.lc.gd hKN)
          have hlt := hid hlt
          clear hFh hGh hK hK0
          go_wp2_with fail
          go_roundw
          case rel => exact ⟨K, rfl, ⟨T2, sub2, hK0h.out, hKN, h3.out, hJ3.out⟩⟩
          case measure => rw [hms2.out, hms.out]; have := hlt.out; have := hlen.out; omega

set_option maxRecDepth 100000 in
set_option maxHeartbeats 1000000 in
theorem seek_fst (c1 c2 c3 : Value) (fb nb n N : Nat) (v : Nat → Int) (seq : Nat → List Nat) (pp par : Nat → Nat) (adj : Nat → Nat → Prop) (lo : Nat) (w w0 : World) (Fin : Tb → (Nat → List Nat) → Nat → World → Prop) (x : Nat) (wr : World)
    (hd : Calls Tryz.prog 126 #[.pointer (some ⟨fb, 0, none⟩), .int .i32 (x : Int), .func (.func 102) #[] #[c1, c2, c3]] wr fun e w' => ∃ (x' : Nat) (T' : Tb) (sub' : Nat → List Nat), e = .returned (.int .i32 (x' : Int)) ∧ x' ≠ 0 ∧ x' < N ∧ HS lo w w0 fb n nb N T' v sub' seq pp par adj w' ∧ (T' x').t = false ∧ Fin T' sub' x' w') :
    Calls Tryz.prog 101 #[.pointer (some ⟨fb, 0, none⟩), .int .i32 (x : Int), .func (.func 102) #[] #[c1, c2, c3]] wr fun e w' => ∃ (x' : Nat) (T' : Tb) (sub' : Nat → List Nat), e = .returned (.int .i32 (x' : Int)) ∧ x' ≠ 0 ∧ x' < N ∧ HS lo w w0 fb n nb N T' v sub' seq pp par adj w' ∧ (T' x').up = 0 ∧ (T' x').t = false ∧ (∃ T1 sub1 w1, Fin T1 sub1 x' w1) := by
  have hd := hid hd
  go_enter Tryz.func101, Tryz.ntmps101
  go_wp2_with fail
  refine hd.out.mono ?_
  rintro e w2 ⟨x', T2, sub2, rfl, hx0, hx, h2, t2, hF⟩
  have h2 := hid h2
  have hF := hid hF
  have hx0 := hid hx0
  clear hd t2
  go_wp2_with fail
  refine (h2.out.raise x' hx0.out hx).mono ?_
  rintro e w3 ⟨rfl, T3, sub3, h3, m3, u3, t3⟩
  have fin := hid (And.intro h3 (And.intro u3 t3))
  clear h3 m3 u3 t3
  go_wp2_with fail
  go_ret
  exact ⟨x', T3, sub3, rfl, hx0.out, hx, fin.out.1, fin.out.2.1, fin.out.2.2, T2, sub2, w2, hF.out⟩



end Go.Proofs.YtdmkbcbgjdmgdaaGreatDoor.Ct

namespace Go.Proofs.YtdmkbcbgjdmgdaaGreatDoor.Ct
open Go.RowKit
set_option linter.unusedVariables false

def BBox (w : World) (b B : Nat) : Prop := w.heap[b]? = some (.cells #[.func (.func B) #[] #[]] 118 (0, 0))
def WBox (w : World) (b : Nat) (z : Int) : Prop := w.heap[b]? = some (.cells #[.int .i64 z] 2 (0, 0))

theorem BBox.keep {w w' : World} {b B : Nat} (h : BBox w b B) (k : Keep w w') : BBox w' b B := k b _ _ _ h (by decide) (by decide)
theorem WBox.keep {w w' : World} {b : Nat} {z : Int} (h : WBox w b z) (k : Keep w w') : WBox w' b z := k b _ _ _ h (by decide) (by decide)
theorem BBox.cell {w : World} {b B : Nat} (h : BBox w b B) : w.cell? ⟨b, 0, none⟩ = some (.func (.func B) #[] #[]) := by unfold World.cell?; rw [h]; simp
theorem WBox.cell {w : World} {b : Nat} {z : Int} (h : WBox w b z) : w.cell? ⟨b, 0, none⟩ = some (.int .i64 z) := by unfold World.cell?; rw [h]; simp

section
variable {lo fb n nb N : Nat} {w w0 wr : World} {T : Tb} {v : Nat → Int} {sub seq : Nat → List Nat} {pp par : Nat → Nat} {adj : Nat → Nat → Prop}

/-- What tells of a node. -/
def Tells (B : Nat) (tv : Nd → Int) : Prop := ∀ (y : World) (fb nb n N : Nat) (T : Tb) (x : Nat), Fo y fb nb n N T → x < N → Calls Tryz.prog B #[.pointer (some ⟨nb, x * 9, none⟩)] y fun e w' => e = .returned (.int .i64 (tv (T x))) ∧ y = w'

set_option maxRecDepth 100000 in
theorem tells_low : Tells 74 Nd.lo := fun y fb nb n N T x h hx => by
  have c := h.lo hx
  clear h
  go_enter Tryz.func74, Tryz.ntmps74
  go_wp2_with fail
  go_ret
  exact ⟨rfl, rfl⟩



set_option maxRecDepth 100000 in
set_option maxHeartbeats 1000000 in
theorem first1L_ok {tv : Nd → Int} (ht : Tells 74 tv) (htv : ∀ pp x n, tv (rn pp x n) = tv n) (h : HS lo w w0 fb n nb N T v sub seq pp par adj wr) (x bf bb bw : Nat) (hx : x < N) (W : Int) (hf : FBox wr bf fb) (hb : BBox wr bb 74) (hw : WBox wr bw W) :
    Calls Tryz.prog 102 #[.int .i32 (x : Int), .pointer (some ⟨bf, 0, none⟩), .pointer (some ⟨bb, 0, none⟩), .pointer (some ⟨bw, 0, none⟩)] wr fun e w' => ∃ c : Int, e = .returned (.int .i64 c) ∧ HS lo w w0 fb n nb N T v sub seq pp par adj w' ∧ Keep wr w' ∧ (((T x).l ≠ 0 ∧ tv (T (T x).l) = W ∧ c = 0) ∨ (¬ ((T x).l ≠ 0 ∧ tv (T (T x).l) = W) ∧ (((T x).v = W ∧ c = 2) ∨ ((T x).v ≠ W ∧ c = 1)))) := by
  have hbig := h.fo.big
  have c1 := h.fo.c1
  have cv : wr.cell? ⟨nb, x * 9, none⟩ = some (.int .i64 (T x).v) := h.fo.v hx
  have cl : wr.cell? ⟨nb, x * 9 + 6, none⟩ = some (.int .i32 ((T x).l : Int)) := h.fo.l hx
  obtain ⟨K, hK⟩ : ∃ K, (T x).l = K := ⟨_, rfl⟩
  obtain ⟨V, hV⟩ : ∃ V, (T x).v = V := ⟨_, rfl⟩
  have hKN : K < N := by rw [← hK]; exact h.lc.gd.k_lt x false
  have hte := ht wr.drew fb nb n N (real T pp) K h.drew.fo hKN
  rw [show real T pp K = rn pp K (T K) from rfl, htv] at hte
  obtain ⟨U, hU⟩ : ∃ U, tv (T K) = U := ⟨_, rfl⟩
  rw [hU] at hte
  rw [hK, hV, hU]
  rw [hK] at cl
  rw [hV] at cv
  have hte := hid hte
  have cf := hf.cell
  have cb := hb.cell
  have cw := hw.cell
  have h := hid h
  have q1 : (0 : Int) ≤ (x : Int) := by omega
  have q2 : (x : Int) < (N : Int) := by omega
  have q3 : (0 : Int) ≤ (K : Int) := by omega
  have q4 : (K : Int) < (N : Int) := by omega
  have hd := hid h.out.drew
  have kd : Keep wr wr.drew := (HS.drew h.out.re).keep
  have kd := hid kd
  have hd2 := hid hd.out.drew
  have kd2 : Keep wr wr.drew.drew := (HS.drew (HS.drew h.out.re)).keep
  have kd2 := hid kd2
  clear hf hb hw ht htv hU hV hK hbig h
  by_cases hK0 : K = 0
  · subst hK0
    by_cases hVW : V = W
    · have t1 : (V == W) = true := by rw [hVW]; simp
      go_enter Tryz.func102, Tryz.ntmps102
      go_wp2_with fail
      go_region
      go_wp2_with fail
      go_region
      go_wp2_with fail
      go_ret
      exact ⟨2, rfl, hd2.out, kd2.out, Or.inr ⟨by simp, Or.inl ⟨hVW, rfl⟩⟩⟩
    · have t1 : (V == W) = false := by rw [beq_eq_false_iff_ne]; exact hVW
      go_enter Tryz.func102, Tryz.ntmps102
      go_wp2_with fail
      go_region
      go_wp2_with fail
      go_region
      go_wp2_with fail
      go_ret
      exact ⟨1, rfl, hd2.out, kd2.out, Or.inr ⟨by simp, Or.inr ⟨hVW, rfl⟩⟩⟩
  · have t0 : ((K : Int) == 0) = false := by rw [beq_eq_false_iff_ne]; omega
    have t0' : ((K : Int) != 0) = true := by rw [bne_iff_ne]; omega
    by_cases hUW : U = W
    · have t1 : (U == W) = true := by rw [hUW]; simp
      go_enter Tryz.func102, Tryz.ntmps102
      go_wp2_with fail
      go_region_held3 (fun w' => w'.cell? ⟨bf, 0, none⟩ = some (.pointer (some ⟨fb, 0, none⟩)) ∧ w'.cell? ⟨bb, 0, none⟩ = some (.func (.func 74) #[] #[]) ∧ w'.cell? ⟨bw, 0, none⟩ = some (.int .i64 W) ∧ w'.cell? ⟨fb, 1, none⟩ = some (.slice (some ⟨nb, 0, none⟩) N N)) (first | assumption | exact ⟨cf, cb, cw, c1⟩ | go_keep) ((go_at_call 74; refine hte.out.mono ?_; rintro e w' ⟨rfl, rfl⟩))
      all_goals
        go_wp2_with fail
        go_ret
        exact ⟨0, rfl, hd.out, kd.out, Or.inl ⟨hK0, hUW, rfl⟩⟩
    · have t1 : (U == W) = false := by rw [beq_eq_false_iff_ne]; exact hUW
      by_cases hVW : V = W
      · have t2 : (V == W) = true := by rw [hVW]; simp
        go_enter Tryz.func102, Tryz.ntmps102
        go_wp2_with fail
        go_region_held3 (fun w' => w'.cell? ⟨bf, 0, none⟩ = some (.pointer (some ⟨fb, 0, none⟩)) ∧ w'.cell? ⟨bb, 0, none⟩ = some (.func (.func 74) #[] #[]) ∧ w'.cell? ⟨bw, 0, none⟩ = some (.int .i64 W) ∧ w'.cell? ⟨fb, 1, none⟩ = some (.slice (some ⟨nb, 0, none⟩) N N)) (first | assumption | exact ⟨cf, cb, cw, c1⟩ | go_keep) ((go_at_call 74; refine hte.out.mono ?_; rintro e w' ⟨rfl, rfl⟩))
        all_goals
          go_wp2_with fail
          go_region
          go_wp2_with fail
          go_ret
          exact ⟨2, rfl, hd2.out, kd2.out, Or.inr ⟨fun hh => hUW hh.2, Or.inl ⟨hVW, rfl⟩⟩⟩
      · have t2 : (V == W) = false := by rw [beq_eq_false_iff_ne]; exact hVW
        go_enter Tryz.func102, Tryz.ntmps102
        go_wp2_with fail
        go_region_held3 (fun w' => w'.cell? ⟨bf, 0, none⟩ = some (.pointer (some ⟨fb, 0, none⟩)) ∧ w'.cell? ⟨bb, 0, none⟩ = some (.func (.func 74) #[] #[]) ∧ w'.cell? ⟨bw, 0, none⟩ = some (.int .i64 W) ∧ w'.cell? ⟨fb, 1, none⟩ = some (.slice (some ⟨nb, 0, none⟩) N N)) (first | assumption | exact ⟨cf, cb, cw, c1⟩ | go_keep) ((go_at_call 74; refine hte.out.mono ?_; rintro e w' ⟨rfl, rfl⟩))
        all_goals
          go_wp2_with fail
          go_region
          go_wp2_with fail
          go_ret
          exact ⟨1, rfl, hd2.out, kd2.out, Or.inr ⟨fun hh => hUW hh.2, Or.inr ⟨hVW, rfl⟩⟩⟩



/-- The closure, as it is asked. -/
def First1 (B : Nat) (tv : Nd → Int) : Prop := ∀ (lo : Nat) (w w0 : World) (fb n nb N : Nat) (T : Tb) (v : Nat → Int) (sub seq : Nat → List Nat) (pp par : Nat → Nat) (adj : Nat → Nat → Prop) (wr : World), HS lo w w0 fb n nb N T v sub seq pp par adj wr → ∀ (x bf bb bw : Nat), x < N → ∀ (W : Int), FBox wr bf fb → BBox wr bb B → WBox wr bw W →
    Calls Tryz.prog 102 #[.int .i32 (x : Int), .pointer (some ⟨bf, 0, none⟩), .pointer (some ⟨bb, 0, none⟩), .pointer (some ⟨bw, 0, none⟩)] wr fun e w' => ∃ c : Int, e = .returned (.int .i64 c) ∧ HS lo w w0 fb n nb N T v sub seq pp par adj w' ∧ Keep wr w' ∧ (((T x).l ≠ 0 ∧ tv (T (T x).l) = W ∧ c = 0) ∨ (¬ ((T x).l ≠ 0 ∧ tv (T (T x).l) = W) ∧ (((T x).v = W ∧ c = 2) ∨ ((T x).v ≠ W ∧ c = 1))))

theorem first1_low : First1 74 Nd.lo := fun lo w w0 fb n nb N T v sub seq pp par adj wr h x bf bb bw hx W hf hb hw => first1L_ok tells_low (fun _ _ _ => rfl) h x bf bb bw hx W hf hb hw



/-- The first one of a sequence that has the wanted number is found, and brought to the top. -/
theorem HS.fst {B : Nat} {tv : Nd → Int} {tl : List Nat → Int} (ht : First1 B tv) (h : HS lo w w0 fb n nb N T v sub seq pp par adj wr) (x bf bb bw : Nat) (W : Int) (hx0 : x ≠ 0) (hx : x < N) (hu : (T x).up = 0)
    (htl : ∀ T sub y, Inv T v sub seq → tv (T y) = tl (sub y)) (hat : ∀ l, l ≠ [] → (∀ z, z ∈ l → z ∈ seq x) → (tl l = W ↔ ∃ z, z ∈ l ∧ v z = W)) (hsome : ∃ z, z ∈ seq x ∧ v z = W)
    (hf : FBox wr bf fb) (hb : BBox wr bb B) (hw : WBox wr bw W) :
    Calls Tryz.prog 101 #[.pointer (some ⟨fb, 0, none⟩), .int .i32 (x : Int), .func (.func 102) #[] #[.pointer (some ⟨bf, 0, none⟩), .pointer (some ⟨bb, 0, none⟩), .pointer (some ⟨bw, 0, none⟩)]] wr fun e w' => ∃ (p : Nat) (T' : Tb) (sub' : Nat → List Nat), e = .returned (.int .i32 (p : Int)) ∧ p ≠ 0 ∧ p < N ∧ HS lo w w0 fb n nb N T' v sub' seq pp par adj w' ∧ ∃ A B, seq x = A ++ p :: B ∧ v p = W ∧ ∀ z, z ∈ A → v z ≠ W := by
  have hr := h.lc.gd.inv.root x hx0 hu
  refine (seek_fst (.pointer (some ⟨bf, 0, none⟩)) (.pointer (some ⟨bb, 0, none⟩)) (.pointer (some ⟨bw, 0, none⟩)) fb nb n N v seq pp par adj lo w w0 (fun T sub y _ => ∃ A B, seq x = A ++ y :: B ∧ v y = W ∧ ∀ z, z ∈ A → v z ≠ W) x wr
    (descend_fst (.pointer (some ⟨bf, 0, none⟩)) (.pointer (some ⟨bb, 0, none⟩)) (.pointer (some ⟨bw, 0, none⟩)) fb nb n N v seq pp par adj lo w w0 (fun T sub y wy => (FBox wy bf fb ∧ BBox wy bb B ∧ WBox wy bw W) ∧ ∃ pre post, seq x = pre ++ sub y ++ post ∧ (∀ z, z ∈ pre → v z ≠ W) ∧ ∃ z, z ∈ sub y ∧ v z = W) _ ?_ ?_ x T sub wr h hx0 hx ⟨⟨hf, hb, hw⟩, [], [], by rw [hr]; simp, by simp, by rw [← hr]; exact hsome⟩)).mono ?_
  · rintro T1 sub1 T2 sub2 y y1 y2 h1 ⟨⟨f1, b1, w1⟩, pre, post, e1, e2, e3⟩ hy m s t h2
    have kk := Keep.ofNodes h1.fo t
    have es := s.self h1.lc.gd.inv hy
    exact ⟨⟨f1.keep kk, b1.keep kk, w1.keep kk⟩, pre, post, by rw [es]; exact e1, e2, by rw [es]; exact e3⟩
  · rintro T1 sub1 y y1 h1 ⟨⟨f1, b1, w1⟩, pre, post, e1, e2, e3⟩ hy hyN hty
    have ef := h1.lc.gd.inv.flat hy hty
    have el : (T1 y).k false = (T1 y).l := rfl
    have er : (T1 y).k true = (T1 y).r := rfl
    refine (ht _ _ _ _ _ _ _ _ _ _ _ _ _ _ _ h1 y bf bb bw hyN W f1 b1 w1).mono ?_
    rintro e y2 ⟨c, rfl, h2, k2, hc⟩
    rw [el, er] at ef
    have hv := h1.lc.gd.inv.val y hy
    have hL : (T1 y).l ≠ 0 → (tv (T1 (T1 y).l) = W ↔ ∃ z, z ∈ sub1 (T1 y).l ∧ v z = W) := fun hl => by
      rw [htl T1 sub1 _ h1.lc.gd.inv]
      refine hat _ (fun e => ?_) (fun z hz => by rw [e1, ef]; simp [hz])
      have := h1.lc.gd.inv.self hl
      rw [e] at this; cases this
    refine ⟨c, rfl, h2, ?_⟩
    rcases hc with ⟨g1, g2, rfl⟩ | ⟨g1, ⟨g2, rfl⟩ | ⟨g2, rfl⟩⟩
    · refine Or.inr ⟨false, rfl, fun hz => absurd hz g1, fun hz => ⟨⟨f1.keep k2, b1.keep k2, w1.keep k2⟩, pre, y :: sub1 (T1 y).r ++ post, ?_, e2, (hL g1).1 g2⟩⟩
      rw [e1, ef, el]; simp
    · have hno : ∀ z, z ∈ sub1 (T1 y).l → v z ≠ W := fun z hz hw => by
        by_cases hl : (T1 y).l = 0
        · rw [hl, h1.lc.gd.inv.sub0] at hz; cases hz
        · exact g1 ⟨hl, (hL hl).2 ⟨z, hz, hw⟩⟩
      refine Or.inl ⟨rfl, pre ++ sub1 (T1 y).l, sub1 (T1 y).r ++ post, by rw [e1, ef]; simp, by rw [← hv]; exact g2, fun z hz => ?_⟩
      rcases List.mem_append.1 hz with hz | hz
      · exact e2 z hz
      · exact hno z hz
    · have hno : ∀ z, z ∈ sub1 (T1 y).l → v z ≠ W := fun z hz hw => by
        by_cases hl : (T1 y).l = 0
        · rw [hl, h1.lc.gd.inv.sub0] at hz; cases hz
        · exact g1 ⟨hl, (hL hl).2 ⟨z, hz, hw⟩⟩
      have hR : ∃ z, z ∈ sub1 (T1 y).r ∧ v z = W := by
        obtain ⟨z, hz, hzW⟩ := e3
        rw [ef] at hz
        rcases List.mem_append.1 hz with hz | hz
        · exact absurd hzW (hno z hz)
        · rcases List.mem_cons.1 hz with hz | hz
          · rw [hz, ← hv] at hzW; exact absurd hzW g2
          · exact ⟨z, hz, hzW⟩
      refine Or.inr ⟨true, rfl, fun hz => ?_, fun hz => ⟨⟨f1.keep k2, b1.keep k2, w1.keep k2⟩, pre ++ sub1 (T1 y).l ++ [y], post, ?_, ?_, hR⟩⟩
      · rw [er] at hz
        obtain ⟨z, hz', _⟩ := hR
        rw [hz, h1.lc.gd.inv.sub0] at hz'; cases hz'
      · rw [e1, ef, er]; simp
      · intro z hz
        rcases List.mem_append.1 hz with hz | hz
        · rcases List.mem_append.1 hz with hz | hz
          · exact e2 z hz
          · exact hno z hz
        · rw [List.mem_singleton.1 hz, ← hv]; exact g2
  · rintro e w' ⟨p, T', sub', rfl, hp0, hp, h', u', t', _, _, _, hA⟩
    exact ⟨p, T', sub', rfl, hp0, hp, h', hA⟩

end

end Go.Proofs.YtdmkbcbgjdmgdaaGreatDoor.Ct

namespace Go.Proofs.YtdmkbcbgjdmgdaaGreatDoor.Ct
open Go.RowKit
set_option linter.unusedVariables false

/-- The values of a list are numbers of 64 bits. -/
def In64 (v : Nat → Int) (l : List Nat) : Prop := ∀ z, z ∈ l → -9223372036854775808 ≤ v z ∧ v z ≤ 9223372036854775807

theorem lowV_mem (v : Nat → Int) : ∀ (l : List Nat) (z : Nat), z ∈ l → lowV v l ≤ v z
  | x :: l, z, hz => by
    simp only [lowV]
    rcases List.mem_cons.1 hz with rfl | hz
    · omega
    · have := lowV_mem v l z hz; omega
theorem highV_mem (v : Nat → Int) : ∀ (l : List Nat) (z : Nat), z ∈ l → v z ≤ highV v l
  | x :: l, z, hz => by
    simp only [highV]
    rcases List.mem_cons.1 hz with rfl | hz
    · omega
    · have := highV_mem v l z hz; omega
theorem lowV_att (v : Nat → Int) : ∀ l : List Nat, l ≠ [] → In64 v l → ∃ z, z ∈ l ∧ v z = lowV v l
  | [x], _, h => ⟨x, by simp, by have := h x (by simp); simp only [lowV]; omega⟩
  | x :: y :: l, _, h => by
    obtain ⟨z, hz, e⟩ := lowV_att v (y :: l) (by simp) (fun z hz => h z (List.mem_cons_of_mem _ hz))
    rcases Int.lt_or_le (lowV v (y :: l)) (v x) with hlt | hge
    · exact ⟨z, List.mem_cons_of_mem _ hz, by rw [show lowV v (x :: y :: l) = min (v x) (lowV v (y :: l)) from rfl]; omega⟩
    · exact ⟨x, by simp, by rw [show lowV v (x :: y :: l) = min (v x) (lowV v (y :: l)) from rfl]; omega⟩
theorem highV_att (v : Nat → Int) : ∀ l : List Nat, l ≠ [] → In64 v l → ∃ z, z ∈ l ∧ v z = highV v l
  | [x], _, h => ⟨x, by simp, by have := h x (by simp); simp only [highV]; omega⟩
  | x :: y :: l, _, h => by
    obtain ⟨z, hz, e⟩ := highV_att v (y :: l) (by simp) (fun z hz => h z (List.mem_cons_of_mem _ hz))
    rcases Int.lt_or_le (v x) (highV v (y :: l)) with hlt | hge
    · exact ⟨z, List.mem_cons_of_mem _ hz, by rw [show highV v (x :: y :: l) = max (v x) (highV v (y :: l)) from rfl]; omega⟩
    · exact ⟨x, by simp, by rw [show highV v (x :: y :: l) = max (v x) (highV v (y :: l)) from rfl]; omega⟩
theorem low_at {v : Nat → Int} {S : List Nat} (h : In64 v S) (l : List Nat) (hl : l ≠ []) (hs : ∀ z, z ∈ l → z ∈ S) : lowV v l = lowV v S ↔ ∃ z, z ∈ l ∧ v z = lowV v S := by
  obtain ⟨y, hy, ey⟩ := lowV_att v l hl (fun z hz => h z (hs z hz))
  constructor
  · intro e; exact ⟨y, hy, by rw [ey, e]⟩
  · rintro ⟨z, hz, ez⟩
    have h1 := lowV_mem v l z hz
    have h2 := lowV_mem v S y (hs y hy)
    omega
theorem high_at {v : Nat → Int} {S : List Nat} (h : In64 v S) (l : List Nat) (hl : l ≠ []) (hs : ∀ z, z ∈ l → z ∈ S) : highV v l = highV v S ↔ ∃ z, z ∈ l ∧ v z = highV v S := by
  obtain ⟨y, hy, ey⟩ := highV_att v l hl (fun z hz => h z (hs z hz))
  constructor
  · intro e; exact ⟨y, hy, by rw [ey, e]⟩
  · rintro ⟨z, hz, ez⟩
    have h1 := highV_mem v l z hz
    have h2 := highV_mem v S y (hs y hy)
    omega

section
variable {lo fb n : Nat} {w w0 : World} {v : Nat → Int} {adj : Nat → Nat → Prop}

set_option maxRecDepth 100000 in
set_option maxHeartbeats 2000000 in
theorem FS.firstL (h : FS lo w fb n v adj w0) (x y : Nat) (hx : x < n) (hy : y < n) (l : List Nat) (hl : Rd adj (x + 1) (y + 1) l) (hv : In64 v l) :
    Calls Tryz.prog 73 #[.pointer (some ⟨fb, 0, none⟩), .int .i64 (x : Int), .int .i64 (y : Int), .func (.func 74) #[] #[]] w0 fun e w' => ∃ d : Nat, (∃ A B, l = A ++ (d + 1) :: B ∧ v (d + 1) = lowV v l ∧ ∀ z, z ∈ A → v z ≠ lowV v l) ∧ e = .returned (.tuple #[.int .i64 (d : Int), .nilIface]) ∧ FS lo w fb n v adj w' ∧ Keep w0 w' := by
  obtain ⟨wa, hwa⟩ : ∃ wa, (w0.alloc (.cells #[.pointer (some ⟨fb, 0, none⟩)] 67)).alloc (.cells #[.func (.func 74) #[] #[]] 118) = wa := ⟨_, rfl⟩
  have ha : FS lo w fb n v adj wa := by rw [← hwa]; exact (h.alloc _).alloc _
  have ka : Keep w0 wa := by rw [← hwa]; exact ((Keep.refl w0).alloc _).alloc _
  have hfa : FBox wa w0.heap.size fb := by rw [← hwa]; exact FBox.keep (heap_alloc_new w0 _) ((Keep.refl _).alloc _)
  have hba : BBox wa (w0.heap.size + 1) 74 := by
    rw [← hwa]
    have := heap_alloc_new (w0.alloc (.cells #[.pointer (some ⟨fb, 0, none⟩)] 67)) (.cells #[.func (.func 74) #[] #[]] 118)
    rw [show (w0.alloc (.cells #[.pointer (some ⟨fb, 0, none⟩)] 67)).heap.size = w0.heap.size + 1 from by simp] at this
    exact this
  have hr := hid (ha.roadY x y hx hy l hl)
  have ka := hid ka
  have hwah := hid hwa
  have hne : Hid (l ≠ []) := hid hl.wk.last.1
  clear h ha hl
  obtain ⟨bf, hbf⟩ : ∃ bf, w0.heap.size = bf := ⟨_, rfl⟩
  obtain ⟨bb, hbb⟩ : ∃ bb, bf + 1 = bb := ⟨_, rfl⟩
  rw [hbf] at hfa hba
  rw [hbb] at hba
  have cfa := hfa.cell
  have cba := hba.cell
  have hfa := hid hfa
  have hba := hid hba
  have hv := hid hv
  go_enter Tryz.func73, Tryz.ntmps73
  go_wp2_with fail
  refine hr.out.mono ?_
  rintro e w2 ⟨rfl, nb, N, T2, sub2, seq, pp, par, h2, hxN, hyN, u2, t2, p2, s2, _⟩
  have hf2 := hid (hfa.out.keep h2.keep)
  have hb2 := hid (hba.out.keep h2.keep)
  have cf2 := hf2.out.cell
  have cb2 := hb2.out.cell
  have k2 := hid (ka.out.trans h2.keep)
  have c12 := h2.fo.c1
  obtain ⟨X, hX⟩ : ∃ X, y + 1 = X := ⟨_, rfl⟩
  have hX0 : X ≠ 0 := by omega
  rw [hX] at hyN u2 s2 ⊢
  have hXN : X < N := hyN
  have q1 : (0 : Int) ≤ (X : Int) := by omega
  have q2 : (X : Int) < (N : Int) := by omega
  have h2 := hid h2
  have u2 := hid u2
  have s2 := hid s2
  clear hr hfa hba cfa cba hwa hX hbf hbb t2 p2
  go_wp2_with fail
  have hte : Hid (∀ z, Fo z fb nb n N (real T2 pp) → Calls Tryz.prog 74 #[.pointer (some ⟨nb, X * 9, none⟩)] z fun e w' => e = .returned (.int .i64 ((T2 X).lo)) ∧ z = w') := hid (fun z hz => tells_low z fb nb n N (real T2 pp) X hz hXN)
  obtain ⟨W, hW⟩ : ∃ W, (T2 X).lo = W := ⟨_, rfl⟩
  rw [hW] at hte
  have hWh := hid hW
  clear hW
  have hS0 : (w2.drew.cell? ⟨bf, 0, none⟩ = some (.pointer (some ⟨fb, 0, none⟩)) ∧ w2.drew.cell? ⟨bb, 0, none⟩ = some (.func (.func 74) #[] #[]) ∧ w2.drew.cell? ⟨fb, 1, none⟩ = some (.slice (some ⟨nb, 0, none⟩) N N)) := ⟨cf2, cb2, c12⟩
  have h2d := hid h2.out.drew
  have h2a := hid (h2.out.drew.alloc (.cells #[.int .i64 0] 2))
  go_region_held3 (fun w' => w'.cell? ⟨bf, 0, none⟩ = some (.pointer (some ⟨fb, 0, none⟩)) ∧ w'.cell? ⟨bb, 0, none⟩ = some (.func (.func 74) #[] #[]) ∧ w'.cell? ⟨fb, 1, none⟩ = some (.slice (some ⟨nb, 0, none⟩) N N)) (first | assumption | exact hS0 | go_keep) ((go_at_call 74; refine (hte.out _ (by first | exact h2d.out.fo | exact h2a.out.fo)).mono ?_; rintro e w' ⟨rfl, rfl⟩))
  all_goals
    have hroot := h2.out.lc.gd.inv.root X hX0 u2.out
    have hWS : W = lowV v l := by rw [← hWh.out, (h2.out.lc.gd.inv.tal X).lo, ← hroot, s2.out]
    have hsome : ∃ z, z ∈ seq X ∧ v z = W := by rw [hWS, s2.out]; exact lowV_att v l hne.out hv.out
    have hat : ∀ m, m ≠ [] → (∀ z, z ∈ m → z ∈ seq X) → (lowV v m = W ↔ ∃ z, z ∈ m ∧ v z = W) := by rw [hWS, s2.out]; exact low_at hv.out
    have h3 := (h2.out.alloc (.cells #[.int .i64 W] 2)).drew
    have kk : Keep w2 (w2.alloc (.cells #[.int .i64 W] 2)).drew := ((HS.alloc h2.out.re (.cells #[.int .i64 W] 2)).drew).keep
    have hf3 := hf2.out.keep kk
    have hb3 := hb2.out.keep kk
    have hw3 : WBox (w2.alloc (.cells #[.int .i64 W] 2)).drew w2.heap.size W := heap_alloc_new w2 _
    have kb3 := hid (k2.out.trans kk)
    have cf3 := hf3.cell
    generalize (w2.alloc (.cells #[.int .i64 W] 2)).drew = w3 at h3 hf3 hb3 hw3 kb3 kk cf3 ⊢
    generalize w2.heap.size = bw at hw3 ⊢
    have hseek := hid (HS.fst (tl := lowV v) first1_low h3.re X bf bb bw W hX0 hXN u2.out (fun T sub y hi => (hi.tal y).lo) hat hsome hf3 hb3 hw3)
    have hWSh := hid hWS
    clear hroot hWS hsome hat h3 kk hf3 hb3 hw3 hte hS0 h2d h2a cf2 cb2 c12 hf2 hb2 h2 u2
    go_wp2_with fail
    refine hseek.out.mono ?_
    rintro e w4 ⟨p, T4, sub4, rfl, hp0, hpN, h4, hA⟩
    obtain ⟨d, rfl⟩ : ∃ d, p = d + 1 := ⟨p - 1, by omega⟩
    rw [show ((d + 1 : Nat) : Int) = (d : Int) + 1 from by omega]
    have hit := item_ok d (by have := h4.fo.big; omega) w4
    rw [show ((d + 1 : Nat) : Int) = (d : Int) + 1 from by omega] at hit
    have hit := hid hit
    rw [s2.out] at hA
    have fin := hid (And.intro h4 hA)
    clear h4 hA hseek cf3
    go_wp2_with fail
    refine hit.out.mono ?_
    rintro e w5 ⟨rfl, rfl⟩
    go_wp2_with fail
    go_ret2
    exact ⟨d, by rw [← hWSh.out]; exact fin.out.2, rfl, fin.out.1.end_, kb3.out.trans fin.out.1.keep⟩

set_option maxRecDepth 100000 in
theorem FS.leastY (h : FS lo w fb n v adj w0) (x y : Nat) (hx : x < n) (hy : y < n) (l : List Nat) (hl : Rd adj (x + 1) (y + 1) l) (hv : In64 v l) :
    Calls Tryz.prog 46 #[.pointer (some ⟨fb, 0, none⟩), .int .i64 (x : Int), .int .i64 (y : Int)] w0 fun e w' => ∃ d : Nat, (∃ A B, l = A ++ (d + 1) :: B ∧ v (d + 1) = lowV v l ∧ ∀ z, z ∈ A → v z ≠ lowV v l) ∧ e = .returned (.tuple #[.int .i64 (d : Int), .nilIface]) ∧ FS lo w fb n v adj w' ∧ Keep w0 w' := by
  have hf := hid (h.firstL x y hx hy l hl hv)
  clear h hl hv
  go_enter Tryz.func46, Tryz.ntmps46
  go_wp2_with fail
  refine hf.out.mono ?_
  rintro e w1 ⟨d, hA, rfl, h1⟩
  have h1 := hid (And.intro hA h1)
  clear hA
  go_wp2_with fail
  go_ret2
  exact ⟨d, h1.out.1, rfl, h1.out.2⟩

set_option maxRecDepth 100000 in
set_option maxHeartbeats 1000000 in
theorem FS.firstL_err (h : FS lo w fb n v adj w0) (x y E : Int) (hr : ∀ wa, FS lo w fb n v adj wa → Calls Tryz.prog 86 #[.pointer (some ⟨fb, 0, none⟩), .int .i64 x, .int .i64 y] wa fun e w' => e = .returned (.tuple #[.int .i32 0, (.iface 63 (.int .i64 E))]) ∧ FS lo w fb n v adj w' ∧ Keep wa w') :
    Calls Tryz.prog 46 #[.pointer (some ⟨fb, 0, none⟩), .int .i64 x, .int .i64 y] w0 fun e w' => e = .returned (.tuple #[.int .i64 0, (.iface 63 (.int .i64 E))]) ∧ FS lo w fb n v adj w' ∧ Keep w0 w' := by
  have hfi : Calls Tryz.prog 73 #[.pointer (some ⟨fb, 0, none⟩), .int .i64 x, .int .i64 y, .func (.func 74) #[] #[]] w0 fun e w' => e = .returned (.tuple #[.int .i64 0, (.iface 63 (.int .i64 E))]) ∧ FS lo w fb n v adj w' ∧ Keep w0 w' := by
    obtain ⟨wa, hwa⟩ : ∃ wa, (w0.alloc (.cells #[.pointer (some ⟨fb, 0, none⟩)] 67)).alloc (.cells #[.func (.func 74) #[] #[]] 118) = wa := ⟨_, rfl⟩
    have ha : FS lo w fb n v adj wa := by rw [← hwa]; exact (h.alloc _).alloc _
    have ka : Keep w0 wa := by rw [← hwa]; exact ((Keep.refl w0).alloc _).alloc _
    have hfa : FBox wa w0.heap.size fb := by rw [← hwa]; exact FBox.keep (heap_alloc_new w0 _) ((Keep.refl _).alloc _)
    have cfa := hfa.cell
    have hs := hid (hr wa ha)
    have ka := hid ka
    clear h ha hr hfa
    go_enter Tryz.func73, Tryz.ntmps73
    go_wp2_with fail
    refine hs.out.mono ?_
    rintro e w1 ⟨rfl, h1, k1⟩
    have h1 := hid (And.intro h1 (ka.out.trans k1))
    clear k1
    go_wp2_with fail
    go_ret2
    exact ⟨rfl, h1.out⟩
  have hfi := hid hfi
  clear hr
  go_enter Tryz.func46, Tryz.ntmps46
  go_wp2_with fail
  refine hfi.out.mono ?_
  rintro e w1 ⟨rfl, h1⟩
  have h1 := hid h1
  go_wp2_with fail
  go_ret2
  exact ⟨rfl, h1.out⟩

theorem FS.leastN (h : FS lo w fb n v adj w0) (x y : Nat) (hx : x < n) (hy : y < n) (hl : ∀ l, ¬ Rd adj (x + 1) (y + 1) l) :
    Calls Tryz.prog 46 #[.pointer (some ⟨fb, 0, none⟩), .int .i64 (x : Int), .int .i64 (y : Int)] w0 fun e w' => e = .returned (.tuple #[.int .i64 0, (.iface 63 (.int .i64 21))]) ∧ FS lo w fb n v adj w' ∧ Keep w0 w' := h.firstL_err x y 21 (fun wa ha => ha.roadN x y hx hy hl)

theorem FS.least_bad (h : FS lo w fb n v adj w0) (x y : Int) (hx : ¬ ((0 ≤ x ∧ x < (n : Int)) ∧ (0 ≤ y ∧ y < (n : Int)))) :
    Calls Tryz.prog 46 #[.pointer (some ⟨fb, 0, none⟩), .int .i64 x, .int .i64 y] w0 fun e w' => e = .returned (.tuple #[.int .i64 0, (.iface 63 (.int .i64 12))]) ∧ FS lo w fb n v adj w' ∧ Keep w0 w' := h.firstL_err x y 12 (fun wa ha => ha.road_bad x y hx)

set_option maxRecDepth 100000 in
set_option maxHeartbeats 1000000 in
theorem least_nil (x y : Int) (w0 : World) :
    Calls Tryz.prog 46 #[.pointer none, .int .i64 x, .int .i64 y] w0 fun e w' => e = .returned (.tuple #[.int .i64 0, (.iface 63 (.int .i64 1))]) ∧ Below w0.heap.size w0 w' := by
  have hfi : Calls Tryz.prog 73 #[.pointer none, .int .i64 x, .int .i64 y, .func (.func 74) #[] #[]] w0 fun e w' => e = .returned (.tuple #[.int .i64 0, (.iface 63 (.int .i64 1))]) ∧ Below w0.heap.size w0 w' := by
    obtain ⟨wa, hwa⟩ : ∃ wa, (w0.alloc (.cells #[.pointer none] 67)).alloc (.cells #[.func (.func 74) #[] #[]] 118) = wa := ⟨_, rfl⟩
    have hb : Below w0.heap.size w0 wa := by rw [← hwa]; exact ((Below.refl _ _).alloc (Nat.le_refl _) _).alloc (by simp) _
    have cfa : wa.cell? ⟨w0.heap.size, 0, none⟩ = some (.pointer none) := by
      rw [← hwa]
      have h1 := heap_alloc_new w0 (.cells #[.pointer none] 67)
      have h2 := Below.heap_alloc (w0.alloc (.cells #[.pointer none] 67)) (.cells #[.func (.func 74) #[] #[]] 118) w0.heap.size (by simp)
      unfold World.cell?
      rw [h2, h1]; simp
    have hs := hid (road_nil x y wa)
    have hb := hid hb
    go_enter Tryz.func73, Tryz.ntmps73
    go_wp2_with fail
    refine hs.out.mono ?_
    rintro e w1 ⟨rfl, h1⟩
    have h1 := hid (hb.out.trans (h1.mono hb.out.size))
    go_wp2_with fail
    go_ret2
    exact ⟨rfl, h1.out⟩
  have hfi := hid hfi
  go_enter Tryz.func46, Tryz.ntmps46
  go_wp2_with fail
  refine hfi.out.mono ?_
  rintro e w1 ⟨rfl, h1⟩
  have h1 := hid h1
  go_wp2_with fail
  go_ret2
  exact ⟨rfl, h1.out⟩













end

end Go.Proofs.YtdmkbcbgjdmgdaaGreatDoor.Ct

namespace Go.Proofs.YtdmkbcbgjdmgdaaGreatDoor.Ct
open Go.RowKit
set_option linter.unusedVariables false

def T0 : Tb := fun x => if x = 0 then ndN else nd0
def one : Nat → List Nat := fun x => [x]
def zero : Nat → Int := fun _ => 0

theorem gd_new : Gd 1 T0 zero (fun x => if x = 0 then [] else [x]) one := by
  have hk : ∀ x s, (T0 x).k s = 0 := fun x s => by unfold T0; split <;> cases s <;> rfl
  have hu : ∀ x, (T0 x).up = 0 := fun x => by unfold T0; split <;> rfl
  refine ⟨⟨rfl, rfl, fun x hx s => ?_, fun x _ s h => absurd (hk x s) h, fun x _ h => absurd (hu x) h, fun x => ?_, fun x hx => ?_, fun x => ?_, fun x hx _ => ?_, fun x _ h => absurd (hu x) h⟩, fun x hx => ?_, Nat.le_refl _, by decide⟩
  · rw [if_neg hx, hk, hk]
    have : (T0 x).t = false := by unfold T0; split <;> rfl
    rw [this]
    cases s <;> rfl
  · split <;> simp
  · unfold T0; rw [if_neg hx]; rfl
  · by_cases h : x = 0
    · subst h
      exact ⟨rfl, by show (0 : Int) = wrap64 0; unfold wrap64; omega, rfl, rfl⟩
    · unfold T0
      rw [if_neg h, if_neg h]
      exact ⟨rfl, by simp [sumV, zero, wrap64, nd0], by simp [lowV, zero, nd0]; omega, by simp [highV, zero, nd0]; omega⟩
  · rw [if_neg hx]; rfl
  · unfold T0; rw [if_neg (by omega)]

/-- No links. -/
def noE : Nat → Nat → Prop := fun _ _ => False

theorem acy0 : Acy (fun _ => 0) := fun x => by
  by_cases h : x = 0
  · exact ⟨0, h⟩
  · exact ⟨1, h, rfl⟩

theorem lc_new : Lc 1 T0 zero (fun x => if x = 0 then [] else [x]) one (fun _ => 0) (fun _ => 0) :=
  ⟨gd_new, rfl, fun _ => Nat.lt_succ_self 0, fun _ _ => rfl, fun _ _ _ _ _ => rfl, fun _ _ => ⟨rfl, trivial⟩, acy0⟩

theorem he_new : ∀ x y, noE x y ↔ Adj (fun _ => 0) x y := fun x y => ⟨False.elim, fun h => by
  rcases h.2.2 with e | e
  · exact h.2.1 e.symm
  · exact h.1 e.symm⟩

theorem real_new : real T0 (fun _ => 0) = T0 := by
  funext x
  unfold real rn T0
  split <;> rfl

set_option maxRecDepth 100000 in
set_option maxHeartbeats 1000000 in
theorem nothing_ok (w : World) : Calls Tryz.prog 62 #[] w fun e w' => e = .returned (.agg #[.int .i64 0, .int .i64 0, .int .i64 9223372036854775807, .int .i64 (-9223372036854775808), .int .i32 (-1), .int .i32 0, .int .i32 0, .int .i32 0, .bool false]) ∧ Below w.heap.size w w' := by
  go_enter Tryz.func62, Tryz.ntmps62
  go_wp2_with fail
  go_returns
  exact ⟨rfl, (Below.refl _ _).alloc (Nat.le_refl _) _⟩

set_option maxRecDepth 100000 in
set_option maxHeartbeats 1000000 in
theorem new_bad (n : Int) (w : World) (hn : n < 1 ∨ 8388608 < n) : Calls Tryz.prog 28 #[.int .i64 n] w fun e w' => e = .returned (.tuple #[.pointer none, .iface 63 (.int .i64 1)]) ∧ w = w' := by
  by_cases h1 : n < 1
  · have t1 : decide (n < 1) = true := decide_eq_true h1
    go_enter Tryz.func28, Tryz.ntmps28
    go_wp2_with fail
    go_ret2
    exact ⟨rfl, rfl⟩
  · have t1 : decide (n < 1) = false := decide_eq_false h1
    have t2 : decide (8388608 < n) = true := decide_eq_true (by omega)
    go_enter Tryz.func28, Tryz.ntmps28
    go_wp2_with fail
    go_ret2
    exact ⟨rfl, rfl⟩

set_option maxRecDepth 100000 in
set_option maxHeartbeats 1000000 in
theorem new_ok (n : Nat) (w : World) (h1 : 1 ≤ n) (h2 : n ≤ 8388608) : Calls Tryz.prog 28 #[.int .i64 (n : Int)] w fun e w' => ∃ fb, e = .returned (.tuple #[.pointer (some ⟨fb, 0, none⟩), .nilIface]) ∧ FS w.heap.size w fb n zero noE w' := by
  have t1 : decide ((n : Int) < 1) = false := decide_eq_false (by omega)
  have t2 : decide (8388608 < (n : Int)) = false := decide_eq_false (by omega)
  go_enter Tryz.func28, Tryz.ntmps28
  go_wp2_with fail
  refine (nothing_ok _).mono ?_
  rintro e w1 ⟨rfl, b1⟩
  go_wp2_with fail
  first | go_ret2 | go_returns
  have hn1 := heap_alloc_new w1 (.cells #[.int .i64 0, .int .i64 0, .int .i64 9223372036854775807, .int .i64 (-9223372036854775808), .int .i32 (-1), .int .i32 0, .int .i32 0, .int .i32 0, .bool false] 101)
  have hb2 := b1.alloc b1.size (.cells #[.int .i64 0, .int .i64 0, .int .i64 9223372036854775807, .int .i64 (-9223372036854775808), .int .i32 (-1), .int .i32 0, .int .i32 0, .int .i32 0, .bool false] 101)
  have hsz := b1.size
  have hn2 := heap_alloc_new (w1.alloc (.cells #[.int .i64 0, .int .i64 0, .int .i64 9223372036854775807, .int .i64 (-9223372036854775808), .int .i32 (-1), .int .i32 0, .int .i32 0, .int .i32 0, .bool false] 101)) (.cells #[.int .i64 (n : Int), .slice (some ⟨w1.heap.size, 0, none⟩) 1 1] 105)
  have hs2 : (w1.alloc (.cells #[.int .i64 0, .int .i64 0, .int .i64 9223372036854775807, .int .i64 (-9223372036854775808), .int .i32 (-1), .int .i32 0, .int .i32 0, .int .i32 0, .bool false] 101)).heap.size = w1.heap.size + 1 := by simp
  rw [hs2] at hn2
  have hnn := hn1
  rw [← Below.heap_alloc _ (.cells #[.int .i64 (n : Int), .slice (some ⟨w1.heap.size, 0, none⟩) 1 1] 105) _ (by simp)] at hnn
  refine ⟨w1.heap.size + 1, rfl, ⟨w1.heap.size, 1, T0, _, _, _, _, by rw [real_new]; exact ⟨hn2, hnn, by decide⟩, lc_new, he_new, by omega, hsz⟩, by omega, hb2.alloc (by simp; omega) _, h1, h2, Nat.le_refl _⟩

end Go.Proofs.YtdmkbcbgjdmgdaaGreatDoor.Ct
