/- 'Least' and 'Most', walked. -/
import Derived.Test.YtpelpcplagfdiaaDoorAt4
namespace Go.Proofs.YtpelpcplagfdiaaDoor
open Go.RowKit
set_option linter.unusedVariables false

def BBox (w : World) (b B : Nat) : Prop := w.heap[b]? = some (.cells #[.func (.func B) #[] #[]] 97 (0, 0))
def WBox (w : World) (b : Nat) (z : Int) : Prop := w.heap[b]? = some (.cells #[.int .i64 z] 2 (0, 0))

theorem BBox.keep {w w' : World} {b B : Nat} (h : BBox w b B) (k : Keep w w') : BBox w' b B := k b _ _ _ h (by decide) (by decide)
theorem WBox.keep {w w' : World} {b : Nat} {z : Int} (h : WBox w b z) (k : Keep w w') : WBox w' b z := k b _ _ _ h (by decide) (by decide)
theorem BBox.cell {w : World} {b B : Nat} (h : BBox w b B) : w.cell? ⟨b, 0, none⟩ = some (.func (.func B) #[] #[]) := by unfold World.cell?; rw [h]; simp
theorem WBox.cell {w : World} {b : Nat} {z : Int} (h : WBox w b z) : w.cell? ⟨b, 0, none⟩ = some (.int .i64 z) := by unfold World.cell?; rw [h]; simp

section
variable {lo fb n nb N : Nat} {w w0 wr : World} {T : Tb} {v : Nat → Int} {sub seq : Nat → List Nat}

/-- What tells of a node. -/
def Tells (B : Nat) (tv : Nd → Int) : Prop := ∀ (y : World) (fb nb n N : Nat) (T : Tb) (x : Nat), Fo y fb nb n N T → x < N → Calls Tryd.prog B #[.pointer (some ⟨nb, x * 9, none⟩)] y fun e w' => e = .returned (.int .i64 (tv (T x))) ∧ y = w'

set_option maxRecDepth 100000 in
theorem tells_low : Tells 51 Nd.lo := fun y fb nb n N T x h hx => by
  have c := h.lo hx
  clear h
  go_enter Tryd.func51, Tryd.ntmps51
  go_wp2_with fail
  go_ret
  exact ⟨rfl, rfl⟩

set_option maxRecDepth 100000 in
theorem tells_high : Tells 52 Nd.hi := fun y fb nb n N T x h hx => by
  have c := h.hi hx
  clear h
  go_enter Tryd.func52, Tryd.ntmps52
  go_wp2_with fail
  go_ret
  exact ⟨rfl, rfl⟩

set_option maxRecDepth 100000 in
set_option maxHeartbeats 1000000 in
theorem first1L_ok {tv : Nd → Int} (ht : Tells 51 tv) (h : HS lo w w0 fb n nb N T v sub seq wr) (x bf bb bw : Nat) (hx : x < N) (W : Int) (hf : FBox wr bf fb) (hb : BBox wr bb 51) (hw : WBox wr bw W) :
    Calls Tryd.prog 62 #[.int .i32 (x : Int), .pointer (some ⟨bf, 0, none⟩), .pointer (some ⟨bb, 0, none⟩), .pointer (some ⟨bw, 0, none⟩)] wr fun e w' => ∃ c : Int, e = .returned (.int .i64 c) ∧ HS lo w w0 fb n nb N T v sub seq w' ∧ Keep wr w' ∧ (((T x).l ≠ 0 ∧ tv (T (T x).l) = W ∧ c = 0) ∨ (¬ ((T x).l ≠ 0 ∧ tv (T (T x).l) = W) ∧ (((T x).v = W ∧ c = 2) ∨ ((T x).v ≠ W ∧ c = 1)))) := by
  have hbig := h.fo.big
  have c1 := h.fo.c1
  have cv := h.fo.v hx
  have cl := h.fo.l hx
  obtain ⟨K, hK⟩ : ∃ K, (T x).l = K := ⟨_, rfl⟩
  obtain ⟨V, hV⟩ : ∃ V, (T x).v = V := ⟨_, rfl⟩
  have hKN : K < N := by rw [← hK]; exact h.gd.k_lt x false
  have hte := ht wr.drew fb nb n N T K h.drew.fo hKN
  obtain ⟨U, hU⟩ : ∃ U, tv (T K) = U := ⟨_, rfl⟩
  rw [hU] at hte
  rw [hK, hV, hU]
  rw [hK] at cl
  rw [hV] at cv
  have hte := hid hte
  have cf := hf.cell
  have cb := hb.cell
  have cw := hw.cell
  have h := hid h
  have q1 : (0 : Int) ≤ (x : Int) := by omega
  have q2 : (x : Int) < (N : Int) := by omega
  have q3 : (0 : Int) ≤ (K : Int) := by omega
  have q4 : (K : Int) < (N : Int) := by omega
  have hd := hid h.out.drew
  have kd : Keep wr wr.drew := (HS.drew h.out.re).keep
  have kd := hid kd
  have hd2 := hid hd.out.drew
  have kd2 : Keep wr wr.drew.drew := (HS.drew (HS.drew h.out.re)).keep
  have kd2 := hid kd2
  clear hf hb hw ht hU hV hK hbig h
  by_cases hK0 : K = 0
  · subst hK0
    by_cases hVW : V = W
    · have t1 : (V == W) = true := by rw [hVW]; simp
      go_enter Tryd.func62, Tryd.ntmps62
      go_wp2_with fail
      go_region
      go_wp2_with fail
      go_region
      go_wp2_with fail
      go_ret
      exact ⟨2, rfl, hd2.out, kd2.out, Or.inr ⟨by simp, Or.inl ⟨hVW, rfl⟩⟩⟩
    · have t1 : (V == W) = false := by rw [beq_eq_false_iff_ne]; exact hVW
      go_enter Tryd.func62, Tryd.ntmps62
      go_wp2_with fail
      go_region
      go_wp2_with fail
      go_region
      go_wp2_with fail
      go_ret
      exact ⟨1, rfl, hd2.out, kd2.out, Or.inr ⟨by simp, Or.inr ⟨hVW, rfl⟩⟩⟩
  · have t0 : ((K : Int) == 0) = false := by rw [beq_eq_false_iff_ne]; omega
    have t0' : ((K : Int) != 0) = true := by rw [bne_iff_ne]; omega
    by_cases hUW : U = W
    · have t1 : (U == W) = true := by rw [hUW]; simp
      go_enter Tryd.func62, Tryd.ntmps62
      go_wp2_with fail
      go_region_held3 (fun w' => w'.cell? ⟨bf, 0, none⟩ = some (.pointer (some ⟨fb, 0, none⟩)) ∧ w'.cell? ⟨bb, 0, none⟩ = some (.func (.func 51) #[] #[]) ∧ w'.cell? ⟨bw, 0, none⟩ = some (.int .i64 W) ∧ w'.cell? ⟨fb, 1, none⟩ = some (.slice (some ⟨nb, 0, none⟩) N N)) (first | assumption | exact ⟨cf, cb, cw, c1⟩ | go_keep) ((go_at_call 51; refine hte.out.mono ?_; rintro e w' ⟨rfl, rfl⟩))
      all_goals
        go_wp2_with fail
        go_ret
        exact ⟨0, rfl, hd.out, kd.out, Or.inl ⟨hK0, hUW, rfl⟩⟩
    · have t1 : (U == W) = false := by rw [beq_eq_false_iff_ne]; exact hUW
      by_cases hVW : V = W
      · have t2 : (V == W) = true := by rw [hVW]; simp
        go_enter Tryd.func62, Tryd.ntmps62
        go_wp2_with fail
        go_region_held3 (fun w' => w'.cell? ⟨bf, 0, none⟩ = some (.pointer (some ⟨fb, 0, none⟩)) ∧ w'.cell? ⟨bb, 0, none⟩ = some (.func (.func 51) #[] #[]) ∧ w'.cell? ⟨bw, 0, none⟩ = some (.int .i64 W) ∧ w'.cell? ⟨fb, 1, none⟩ = some (.slice (some ⟨nb, 0, none⟩) N N)) (first | assumption | exact ⟨cf, cb, cw, c1⟩ | go_keep) ((go_at_call 51; refine hte.out.mono ?_; rintro e w' ⟨rfl, rfl⟩))
        all_goals
          go_wp2_with fail
          go_region
          go_wp2_with fail
          go_ret
          exact ⟨2, rfl, hd2.out, kd2.out, Or.inr ⟨fun hh => hUW hh.2, Or.inl ⟨hVW, rfl⟩⟩⟩
      · have t2 : (V == W) = false := by rw [beq_eq_false_iff_ne]; exact hVW
        go_enter Tryd.func62, Tryd.ntmps62
        go_wp2_with fail
        go_region_held3 (fun w' => w'.cell? ⟨bf, 0, none⟩ = some (.pointer (some ⟨fb, 0, none⟩)) ∧ w'.cell? ⟨bb, 0, none⟩ = some (.func (.func 51) #[] #[]) ∧ w'.cell? ⟨bw, 0, none⟩ = some (.int .i64 W) ∧ w'.cell? ⟨fb, 1, none⟩ = some (.slice (some ⟨nb, 0, none⟩) N N)) (first | assumption | exact ⟨cf, cb, cw, c1⟩ | go_keep) ((go_at_call 51; refine hte.out.mono ?_; rintro e w' ⟨rfl, rfl⟩))
        all_goals
          go_wp2_with fail
          go_region
          go_wp2_with fail
          go_ret
          exact ⟨1, rfl, hd2.out, kd2.out, Or.inr ⟨fun hh => hUW hh.2, Or.inr ⟨hVW, rfl⟩⟩⟩

set_option maxRecDepth 100000 in
set_option maxHeartbeats 1000000 in
theorem first1M_ok {tv : Nd → Int} (ht : Tells 52 tv) (h : HS lo w w0 fb n nb N T v sub seq wr) (x bf bb bw : Nat) (hx : x < N) (W : Int) (hf : FBox wr bf fb) (hb : BBox wr bb 52) (hw : WBox wr bw W) :
    Calls Tryd.prog 62 #[.int .i32 (x : Int), .pointer (some ⟨bf, 0, none⟩), .pointer (some ⟨bb, 0, none⟩), .pointer (some ⟨bw, 0, none⟩)] wr fun e w' => ∃ c : Int, e = .returned (.int .i64 c) ∧ HS lo w w0 fb n nb N T v sub seq w' ∧ Keep wr w' ∧ (((T x).l ≠ 0 ∧ tv (T (T x).l) = W ∧ c = 0) ∨ (¬ ((T x).l ≠ 0 ∧ tv (T (T x).l) = W) ∧ (((T x).v = W ∧ c = 2) ∨ ((T x).v ≠ W ∧ c = 1)))) := by
  have hbig := h.fo.big
  have c1 := h.fo.c1
  have cv := h.fo.v hx
  have cl := h.fo.l hx
  obtain ⟨K, hK⟩ : ∃ K, (T x).l = K := ⟨_, rfl⟩
  obtain ⟨V, hV⟩ : ∃ V, (T x).v = V := ⟨_, rfl⟩
  have hKN : K < N := by rw [← hK]; exact h.gd.k_lt x false
  have hte := ht wr.drew fb nb n N T K h.drew.fo hKN
  obtain ⟨U, hU⟩ : ∃ U, tv (T K) = U := ⟨_, rfl⟩
  rw [hU] at hte
  rw [hK, hV, hU]
  rw [hK] at cl
  rw [hV] at cv
  have hte := hid hte
  have cf := hf.cell
  have cb := hb.cell
  have cw := hw.cell
  have h := hid h
  have q1 : (0 : Int) ≤ (x : Int) := by omega
  have q2 : (x : Int) < (N : Int) := by omega
  have q3 : (0 : Int) ≤ (K : Int) := by omega
  have q4 : (K : Int) < (N : Int) := by omega
  have hd := hid h.out.drew
  have kd : Keep wr wr.drew := (HS.drew h.out.re).keep
  have kd := hid kd
  have hd2 := hid hd.out.drew
  have kd2 : Keep wr wr.drew.drew := (HS.drew (HS.drew h.out.re)).keep
  have kd2 := hid kd2
  clear hf hb hw ht hU hV hK hbig h
  by_cases hK0 : K = 0
  · subst hK0
    by_cases hVW : V = W
    · have t1 : (V == W) = true := by rw [hVW]; simp
      go_enter Tryd.func62, Tryd.ntmps62
      go_wp2_with fail
      go_region
      go_wp2_with fail
      go_region
      go_wp2_with fail
      go_ret
      exact ⟨2, rfl, hd2.out, kd2.out, Or.inr ⟨by simp, Or.inl ⟨hVW, rfl⟩⟩⟩
    · have t1 : (V == W) = false := by rw [beq_eq_false_iff_ne]; exact hVW
      go_enter Tryd.func62, Tryd.ntmps62
      go_wp2_with fail
      go_region
      go_wp2_with fail
      go_region
      go_wp2_with fail
      go_ret
      exact ⟨1, rfl, hd2.out, kd2.out, Or.inr ⟨by simp, Or.inr ⟨hVW, rfl⟩⟩⟩
  · have t0 : ((K : Int) == 0) = false := by rw [beq_eq_false_iff_ne]; omega
    have t0' : ((K : Int) != 0) = true := by rw [bne_iff_ne]; omega
    by_cases hUW : U = W
    · have t1 : (U == W) = true := by rw [hUW]; simp
      go_enter Tryd.func62, Tryd.ntmps62
      go_wp2_with fail
      go_region_held3 (fun w' => w'.cell? ⟨bf, 0, none⟩ = some (.pointer (some ⟨fb, 0, none⟩)) ∧ w'.cell? ⟨bb, 0, none⟩ = some (.func (.func 52) #[] #[]) ∧ w'.cell? ⟨bw, 0, none⟩ = some (.int .i64 W) ∧ w'.cell? ⟨fb, 1, none⟩ = some (.slice (some ⟨nb, 0, none⟩) N N)) (first | assumption | exact ⟨cf, cb, cw, c1⟩ | go_keep) ((go_at_call 52; refine hte.out.mono ?_; rintro e w' ⟨rfl, rfl⟩))
      all_goals
        go_wp2_with fail
        go_ret
        exact ⟨0, rfl, hd.out, kd.out, Or.inl ⟨hK0, hUW, rfl⟩⟩
    · have t1 : (U == W) = false := by rw [beq_eq_false_iff_ne]; exact hUW
      by_cases hVW : V = W
      · have t2 : (V == W) = true := by rw [hVW]; simp
        go_enter Tryd.func62, Tryd.ntmps62
        go_wp2_with fail
        go_region_held3 (fun w' => w'.cell? ⟨bf, 0, none⟩ = some (.pointer (some ⟨fb, 0, none⟩)) ∧ w'.cell? ⟨bb, 0, none⟩ = some (.func (.func 52) #[] #[]) ∧ w'.cell? ⟨bw, 0, none⟩ = some (.int .i64 W) ∧ w'.cell? ⟨fb, 1, none⟩ = some (.slice (some ⟨nb, 0, none⟩) N N)) (first | assumption | exact ⟨cf, cb, cw, c1⟩ | go_keep) ((go_at_call 52; refine hte.out.mono ?_; rintro e w' ⟨rfl, rfl⟩))
        all_goals
          go_wp2_with fail
          go_region
          go_wp2_with fail
          go_ret
          exact ⟨2, rfl, hd2.out, kd2.out, Or.inr ⟨fun hh => hUW hh.2, Or.inl ⟨hVW, rfl⟩⟩⟩
      · have t2 : (V == W) = false := by rw [beq_eq_false_iff_ne]; exact hVW
        go_enter Tryd.func62, Tryd.ntmps62
        go_wp2_with fail
        go_region_held3 (fun w' => w'.cell? ⟨bf, 0, none⟩ = some (.pointer (some ⟨fb, 0, none⟩)) ∧ w'.cell? ⟨bb, 0, none⟩ = some (.func (.func 52) #[] #[]) ∧ w'.cell? ⟨bw, 0, none⟩ = some (.int .i64 W) ∧ w'.cell? ⟨fb, 1, none⟩ = some (.slice (some ⟨nb, 0, none⟩) N N)) (first | assumption | exact ⟨cf, cb, cw, c1⟩ | go_keep) ((go_at_call 52; refine hte.out.mono ?_; rintro e w' ⟨rfl, rfl⟩))
        all_goals
          go_wp2_with fail
          go_region
          go_wp2_with fail
          go_ret
          exact ⟨1, rfl, hd2.out, kd2.out, Or.inr ⟨fun hh => hUW hh.2, Or.inr ⟨hVW, rfl⟩⟩⟩

/-- The closure, as it is asked. -/
def First1 (B : Nat) (tv : Nd → Int) : Prop := ∀ (lo : Nat) (w w0 : World) (fb n nb N : Nat) (T : Tb) (v : Nat → Int) (sub seq : Nat → List Nat) (wr : World), HS lo w w0 fb n nb N T v sub seq wr → ∀ (x bf bb bw : Nat), x < N → ∀ (W : Int), FBox wr bf fb → BBox wr bb B → WBox wr bw W →
    Calls Tryd.prog 62 #[.int .i32 (x : Int), .pointer (some ⟨bf, 0, none⟩), .pointer (some ⟨bb, 0, none⟩), .pointer (some ⟨bw, 0, none⟩)] wr fun e w' => ∃ c : Int, e = .returned (.int .i64 c) ∧ HS lo w w0 fb n nb N T v sub seq w' ∧ Keep wr w' ∧ (((T x).l ≠ 0 ∧ tv (T (T x).l) = W ∧ c = 0) ∨ (¬ ((T x).l ≠ 0 ∧ tv (T (T x).l) = W) ∧ (((T x).v = W ∧ c = 2) ∨ ((T x).v ≠ W ∧ c = 1))))

theorem first1_low : First1 51 Nd.lo := fun lo w w0 fb n nb N T v sub seq wr h x bf bb bw hx W hf hb hw => first1L_ok tells_low h x bf bb bw hx W hf hb hw
theorem first1_high : First1 52 Nd.hi := fun lo w w0 fb n nb N T v sub seq wr h x bf bb bw hx W hf hb hw => first1M_ok tells_high h x bf bb bw hx W hf hb hw

/-- The first one of a sequence that has the wanted number is found, and brought to the top. -/
theorem HS.fst {B : Nat} {tv : Nd → Int} {tl : List Nat → Int} (ht : First1 B tv) (h : HS lo w w0 fb n nb N T v sub seq wr) (x bf bb bw : Nat) (W : Int) (hx0 : x ≠ 0) (hx : x < N) (hu : (T x).up = 0)
    (htl : ∀ T sub y, Inv T v sub seq → tv (T y) = tl (sub y)) (hat : ∀ l, l ≠ [] → (∀ z, z ∈ l → z ∈ seq x) → (tl l = W ↔ ∃ z, z ∈ l ∧ v z = W)) (hsome : ∃ z, z ∈ seq x ∧ v z = W)
    (hf : FBox wr bf fb) (hb : BBox wr bb B) (hw : WBox wr bw W) :
    Calls Tryd.prog 22 #[.pointer (some ⟨fb, 0, none⟩), .int .i32 (x : Int), .func (.func 62) #[] #[.pointer (some ⟨bf, 0, none⟩), .pointer (some ⟨bb, 0, none⟩), .pointer (some ⟨bw, 0, none⟩)]] wr fun e w' => ∃ (p : Nat) (T' : Tb) (sub' : Nat → List Nat), e = .returned (.int .i32 (p : Int)) ∧ p ≠ 0 ∧ p < N ∧ HS lo w w0 fb n nb N T' v sub' seq w' ∧ ∃ A B, seq x = A ++ p :: B ∧ v p = W ∧ ∀ z, z ∈ A → v z ≠ W := by
  have hr := h.gd.inv.root x hx0 hu
  refine (seek_fst (.pointer (some ⟨bf, 0, none⟩)) (.pointer (some ⟨bb, 0, none⟩)) (.pointer (some ⟨bw, 0, none⟩)) fb nb n N v seq lo w w0 (fun T sub y _ => ∃ A B, seq x = A ++ y :: B ∧ v y = W ∧ ∀ z, z ∈ A → v z ≠ W) x wr
    (descend_fst (.pointer (some ⟨bf, 0, none⟩)) (.pointer (some ⟨bb, 0, none⟩)) (.pointer (some ⟨bw, 0, none⟩)) fb nb n N v seq lo w w0 (fun T sub y wy => (FBox wy bf fb ∧ BBox wy bb B ∧ WBox wy bw W) ∧ ∃ pre post, seq x = pre ++ sub y ++ post ∧ (∀ z, z ∈ pre → v z ≠ W) ∧ ∃ z, z ∈ sub y ∧ v z = W) _ ?_ ?_ x T sub wr h hx0 hx ⟨⟨hf, hb, hw⟩, [], [], by rw [hr]; simp, by simp, by rw [← hr]; exact hsome⟩)).mono ?_
  · rintro T1 sub1 T2 sub2 y y1 y2 h1 ⟨⟨f1, b1, w1⟩, pre, post, e1, e2, e3⟩ hy m s t h2
    have kk := Keep.ofNodes h1.fo t
    have es := s.self h1.gd.inv hy
    exact ⟨⟨f1.keep kk, b1.keep kk, w1.keep kk⟩, pre, post, by rw [es]; exact e1, e2, by rw [es]; exact e3⟩
  · rintro T1 sub1 y y1 h1 ⟨⟨f1, b1, w1⟩, pre, post, e1, e2, e3⟩ hy hyN hty
    have ef := h1.gd.inv.flat hy hty
    have el : (T1 y).k false = (T1 y).l := rfl
    have er : (T1 y).k true = (T1 y).r := rfl
    refine (ht _ _ _ _ _ _ _ _ _ _ _ _ h1 y bf bb bw hyN W f1 b1 w1).mono ?_
    rintro e y2 ⟨c, rfl, h2, k2, hc⟩
    rw [el, er] at ef
    have hv := h1.gd.inv.val y hy
    have hL : (T1 y).l ≠ 0 → (tv (T1 (T1 y).l) = W ↔ ∃ z, z ∈ sub1 (T1 y).l ∧ v z = W) := fun hl => by
      rw [htl T1 sub1 _ h1.gd.inv]
      refine hat _ (fun e => ?_) (fun z hz => by rw [e1, ef]; simp [hz])
      have := h1.gd.inv.self hl
      rw [e] at this; cases this
    refine ⟨c, rfl, h2, ?_⟩
    rcases hc with ⟨g1, g2, rfl⟩ | ⟨g1, ⟨g2, rfl⟩ | ⟨g2, rfl⟩⟩
    · refine Or.inr ⟨false, rfl, fun hz => absurd hz g1, fun hz => ⟨⟨f1.keep k2, b1.keep k2, w1.keep k2⟩, pre, y :: sub1 (T1 y).r ++ post, ?_, e2, (hL g1).1 g2⟩⟩
      rw [e1, ef, el]; simp
    · have hno : ∀ z, z ∈ sub1 (T1 y).l → v z ≠ W := fun z hz hw => by
        by_cases hl : (T1 y).l = 0
        · rw [hl, h1.gd.inv.sub0] at hz; cases hz
        · exact g1 ⟨hl, (hL hl).2 ⟨z, hz, hw⟩⟩
      refine Or.inl ⟨rfl, pre ++ sub1 (T1 y).l, sub1 (T1 y).r ++ post, by rw [e1, ef]; simp, by rw [← hv]; exact g2, fun z hz => ?_⟩
      rcases List.mem_append.1 hz with hz | hz
      · exact e2 z hz
      · exact hno z hz
    · have hno : ∀ z, z ∈ sub1 (T1 y).l → v z ≠ W := fun z hz hw => by
        by_cases hl : (T1 y).l = 0
        · rw [hl, h1.gd.inv.sub0] at hz; cases hz
        · exact g1 ⟨hl, (hL hl).2 ⟨z, hz, hw⟩⟩
      have hR : ∃ z, z ∈ sub1 (T1 y).r ∧ v z = W := by
        obtain ⟨z, hz, hzW⟩ := e3
        rw [ef] at hz
        rcases List.mem_append.1 hz with hz | hz
        · exact absurd hzW (hno z hz)
        · rcases List.mem_cons.1 hz with hz | hz
          · rw [hz, ← hv] at hzW; exact absurd hzW g2
          · exact ⟨z, hz, hzW⟩
      refine Or.inr ⟨true, rfl, fun hz => ?_, fun hz => ⟨⟨f1.keep k2, b1.keep k2, w1.keep k2⟩, pre ++ sub1 (T1 y).l ++ [y], post, ?_, ?_, hR⟩⟩
      · rw [er] at hz
        obtain ⟨z, hz', _⟩ := hR
        rw [hz, h1.gd.inv.sub0] at hz'; cases hz'
      · rw [e1, ef, er]; simp
      · intro z hz
        rcases List.mem_append.1 hz with hz | hz
        · rcases List.mem_append.1 hz with hz | hz
          · exact e2 z hz
          · exact hno z hz
        · rw [List.mem_singleton.1 hz, ← hv]; exact g2
  · rintro e w' ⟨p, T', sub', rfl, hp0, hp, h', u', t', _, _, _, hA⟩
    exact ⟨p, T', sub', rfl, hp0, hp, h', hA⟩

end

end Go.Proofs.YtpelpcplagfdiaaDoor
