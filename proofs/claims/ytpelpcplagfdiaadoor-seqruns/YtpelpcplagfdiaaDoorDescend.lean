/- 'descend' and 'seek', walked: a way down that a closure tells. -/
import Derived.Test.YtpelpcplagfdiaaDoorState4
namespace Go.Proofs.YtpelpcplagfdiaaDoor
open Go.RowKit
set_option linter.unusedVariables false

/-- How much is beneath a node that a slot names. -/
def ml (nb : Nat) (a : Value) (w : World) : Nat := match w.cell? ⟨nb, (intOf a).toNat * 9 + 4, none⟩ with
  | some (.int _ k) => (k + 1).toNat
  | _ => 0

theorem ml_is {fb nb n N x : Nat} {T : Tb} {v : Nat → Int} {sub seq : Nat → List Nat} {w : World} (h : Fo w fb nb n N T) (hG : Gd N T v sub seq) (hx : x < N) : ml nb (.int .i32 (x : Int)) w = (sub x).length := by
  unfold ml
  rw [show (intOf (.int .i32 (x : Int))).toNat = x from by simp [intOf], h.rest hx]
  have := (hG.inv.tal x).rest
  dsimp only
  omega

set_option maxRecDepth 100000 in
set_option maxHeartbeats 1000000 in
theorem descend_to (c1 : Value) (fb nb n N : Nat) (v : Nat → Int) (seq : Nat → List Nat) (lo : Nat) (w w0 : World) (J Fin : Tb → (Nat → List Nat) → Nat → World → Prop)
    (hset : ∀ T sub T' sub' x y y', HS lo w w0 fb n nb N T v sub seq y → J T sub x y → x ≠ 0 → Mv N v seq x T sub T' sub' → Stl x T sub T' sub' → Turned (fun k => k = nb) y y' → HS lo w w0 fb n nb N T' v sub' seq y' → J T' sub' x y')
    (hcall : ∀ T sub x y, HS lo w w0 fb n nb N T v sub seq y → J T sub x y → x ≠ 0 → x < N → (T x).t = false → Calls Tryd.prog 47 #[.int .i32 (x : Int), c1] y fun e w' => ∃ c : Int, e = .returned (.int .i64 c) ∧ HS lo w w0 fb n nb N T v sub seq w' ∧ ((c = 2 ∧ Fin T sub x w') ∨ (∃ s : Bool, c = sI s ∧ ((T x).k s = 0 → Fin T sub x w') ∧ ((T x).k s ≠ 0 → J T sub ((T x).k s) w'))))
    (x : Nat) (T : Tb) (sub : Nat → List Nat) (wr : World) (h : HS lo w w0 fb n nb N T v sub seq wr) (hx0 : x ≠ 0) (hx : x < N) (hJ : J T sub x wr) :
    Calls Tryd.prog 46 #[.pointer (some ⟨fb, 0, none⟩), .int .i32 (x : Int), .func (.func 47) #[] #[c1]] wr fun e w' => ∃ (x' : Nat) (T' : Tb) (sub' : Nat → List Nat), e = .returned (.int .i32 (x' : Int)) ∧ x' ≠ 0 ∧ x' < N ∧ HS lo w w0 fb n nb N T' v sub' seq w' ∧ (T' x').t = false ∧ Fin T' sub' x' w' := by
  have hbig := h.fo.big
  have hset := hid hset
  have hcall := hid hcall
  have st : Hid (∃ T1 sub1, x ≠ 0 ∧ x < N ∧ HS lo w w0 fb n nb N T1 v sub1 seq wr ∧ J T1 sub1 x wr) := ⟨T, sub, hx0, hx, h, hJ⟩
  clear h hx0 hx hJ
  go_enter Tryd.func46, Tryd.ntmps46
  go_wp2_with fail
  go_loopw [1, 7] (fun a _ wr => ∃ x : Nat, a = .int .i32 (x : Int) ∧ Hid (∃ T1 sub1, x ≠ 0 ∧ x < N ∧ HS lo w w0 fb n nb N T1 v sub1 seq wr ∧ J T1 sub1 x wr)) (fun a _ wr => ml nb a wr)
  case atStart => exact ⟨x, rfl, st⟩
  case round =>
    clear st
    obtain ⟨x, rfl, hst⟩ := hrel
    obtain ⟨T1, sub1, hx0, hx, h1, hJ⟩ := hst.out
    have hms := hid (ml_is h1.fo h1.gd hx)
    have q1 : (0 : Int) ≤ (x : Int) := by omega
    have q2 : (x : Int) < (N : Int) := by omega
    have h1 := hid h1
    have hJ := hid hJ
    have hx0 := hid hx0
    clear hst
    go_wp2_with fail
    refine (settle_gd fb nb n N x T1 v sub1 seq _ h1.out.fo h1.out.gd hx).mono ?_
    rintro e w2 ⟨rfl, T2, sub2, f2, m2, s2, t2⟩
    have h2 := hid (h1.out.turn f2 m2.gd t2)
    have hJ2 := hid (hset.out T1 sub1 T2 sub2 x _ _ h1.out hJ.out hx0.out m2 s2 t2 h2.out)
    have hlen := hid (s2.len x)
    have htt := hid s2.t
    clear f2 m2 s2 t2 h1 hJ
    go_wp2_with fail
    refine (hcall.out T2 sub2 x _ h2.out hJ2.out hx0.out hx htt.out).mono ?_
    rintro e w3 ⟨c, rfl, h3, hc⟩
    have h3 := hid h3
    have c1 := h3.out.fo.c1
    have cl := h3.out.fo.l hx
    have cr : w3.cell? ⟨nb, x * 9 + 6 + 1, none⟩ = some (.int .i32 ((T2 x).r : Int)) := h3.out.fo.r hx
    clear h2 hJ2
    rcases hc with ⟨rfl, hF⟩ | ⟨s, rfl, hF, hG⟩
    · have hF := hid hF
      clear c1 cl cr
      go_wp2_with fail
      go_ret
      exact ⟨x, T2, sub2, rfl, hx0.out, hx, h3.out, htt.out, hF.out⟩
    · have hFh := hid hF
      have hGh := hid hG
      clear hF hG
      obtain ⟨K, hK⟩ : ∃ K, (T2 x).k s = K := ⟨_, rfl⟩
      have hKN := h3.out.gd.k_lt x s
      have hlt := h3.out.gd.inv.kid_lt hx0.out s
      rw [hK] at hKN hlt hFh hGh
      cases s
      all_goals
        first | rw [show sI false = 0 from rfl] | rw [show sI true = 1 from rfl]
        first | rw [show (T2 x).l = K from hK] at cl | rw [show (T2 x).r = K from hK] at cr
        by_cases hK0 : K = 0
        · subst hK0
          have fin := hid (hFh.out rfl)
          clear hFh hGh hK
          go_wp2_with fail
          go_ret
          exact ⟨x, T2, sub2, rfl, hx0.out, hx, h3.out, htt.out, fin.out⟩
        · have tk : ((K : Int) == 0) = false := by simp; omega
          have hJ3 := hid (hGh.out hK0)
          have hK0h := hid hK0
          have hms2 := hid (ml_is h3.out.fo h3.out.gd hKN)
          have hlt := hid hlt
          clear hFh hGh hK hK0
          go_wp2_with fail
          go_roundw
          case rel => exact ⟨K, rfl, ⟨T2, sub2, hK0h.out, hKN, h3.out, hJ3.out⟩⟩
          case measure => rw [hms2.out, hms.out]; have := hlt.out; have := hlen.out; omega

set_option maxRecDepth 100000 in
set_option maxHeartbeats 1000000 in
theorem seek_to (c1 : Value) (fb nb n N : Nat) (v : Nat → Int) (seq : Nat → List Nat) (lo : Nat) (w w0 : World) (Fin : Tb → (Nat → List Nat) → Nat → World → Prop) (x : Nat) (wr : World)
    (hd : Calls Tryd.prog 46 #[.pointer (some ⟨fb, 0, none⟩), .int .i32 (x : Int), .func (.func 47) #[] #[c1]] wr fun e w' => ∃ (x' : Nat) (T' : Tb) (sub' : Nat → List Nat), e = .returned (.int .i32 (x' : Int)) ∧ x' ≠ 0 ∧ x' < N ∧ HS lo w w0 fb n nb N T' v sub' seq w' ∧ (T' x').t = false ∧ Fin T' sub' x' w') :
    Calls Tryd.prog 22 #[.pointer (some ⟨fb, 0, none⟩), .int .i32 (x : Int), .func (.func 47) #[] #[c1]] wr fun e w' => ∃ (x' : Nat) (T' : Tb) (sub' : Nat → List Nat), e = .returned (.int .i32 (x' : Int)) ∧ x' ≠ 0 ∧ x' < N ∧ HS lo w w0 fb n nb N T' v sub' seq w' ∧ (T' x').up = 0 ∧ (T' x').t = false ∧ (∃ T1 sub1 w1, Fin T1 sub1 x' w1) := by
  have hd := hid hd
  go_enter Tryd.func22, Tryd.ntmps22
  go_wp2_with fail
  refine hd.out.mono ?_
  rintro e w2 ⟨x', T2, sub2, rfl, hx0, hx, h2, t2, hF⟩
  have h2 := hid h2
  have hF := hid hF
  have hx0 := hid hx0
  clear hd t2
  go_wp2_with fail
  refine (h2.out.raise x' hx0.out hx).mono ?_
  rintro e w3 ⟨rfl, T3, sub3, h3, m3, u3, t3⟩
  have fin := hid (And.intro h3 (And.intro u3 t3))
  clear h3 m3 u3 t3
  go_wp2_with fail
  go_ret
  exact ⟨x', T3, sub3, rfl, hx0.out, hx, fin.out.1, fin.out.2.1, fin.out.2.2, T2, sub2, w2, hF.out⟩

set_option maxRecDepth 100000 in
set_option maxHeartbeats 1000000 in
theorem descend_at (c1 c2 : Value) (fb nb n N : Nat) (v : Nat → Int) (seq : Nat → List Nat) (lo : Nat) (w w0 : World) (J Fin : Tb → (Nat → List Nat) → Nat → World → Prop)
    (hset : ∀ T sub T' sub' x y y', HS lo w w0 fb n nb N T v sub seq y → J T sub x y → x ≠ 0 → Mv N v seq x T sub T' sub' → Stl x T sub T' sub' → Turned (fun k => k = nb) y y' → HS lo w w0 fb n nb N T' v sub' seq y' → J T' sub' x y')
    (hcall : ∀ T sub x y, HS lo w w0 fb n nb N T v sub seq y → J T sub x y → x ≠ 0 → x < N → (T x).t = false → Calls Tryd.prog 53 #[.int .i32 (x : Int), c1, c2] y fun e w' => ∃ c : Int, e = .returned (.int .i64 c) ∧ HS lo w w0 fb n nb N T v sub seq w' ∧ ((c = 2 ∧ Fin T sub x w') ∨ (∃ s : Bool, c = sI s ∧ ((T x).k s = 0 → Fin T sub x w') ∧ ((T x).k s ≠ 0 → J T sub ((T x).k s) w'))))
    (x : Nat) (T : Tb) (sub : Nat → List Nat) (wr : World) (h : HS lo w w0 fb n nb N T v sub seq wr) (hx0 : x ≠ 0) (hx : x < N) (hJ : J T sub x wr) :
    Calls Tryd.prog 46 #[.pointer (some ⟨fb, 0, none⟩), .int .i32 (x : Int), .func (.func 53) #[] #[c1, c2]] wr fun e w' => ∃ (x' : Nat) (T' : Tb) (sub' : Nat → List Nat), e = .returned (.int .i32 (x' : Int)) ∧ x' ≠ 0 ∧ x' < N ∧ HS lo w w0 fb n nb N T' v sub' seq w' ∧ (T' x').t = false ∧ Fin T' sub' x' w' := by
  have hbig := h.fo.big
  have hset := hid hset
  have hcall := hid hcall
  have st : Hid (∃ T1 sub1, x ≠ 0 ∧ x < N ∧ HS lo w w0 fb n nb N T1 v sub1 seq wr ∧ J T1 sub1 x wr) := ⟨T, sub, hx0, hx, h, hJ⟩
  clear h hx0 hx hJ
  go_enter Tryd.func46, Tryd.ntmps46
  go_wp2_with fail
  go_loopw [1, 7] (fun a _ wr => ∃ x : Nat, a = .int .i32 (x : Int) ∧ Hid (∃ T1 sub1, x ≠ 0 ∧ x < N ∧ HS lo w w0 fb n nb N T1 v sub1 seq wr ∧ J T1 sub1 x wr)) (fun a _ wr => ml nb a wr)
  case atStart => exact ⟨x, rfl, st⟩
  case round =>
    clear st
    obtain ⟨x, rfl, hst⟩ := hrel
    obtain ⟨T1, sub1, hx0, hx, h1, hJ⟩ := hst.out
    have hms := hid (ml_is h1.fo h1.gd hx)
    have q1 : (0 : Int) ≤ (x : Int) := by omega
    have q2 : (x : Int) < (N : Int) := by omega
    have h1 := hid h1
    have hJ := hid hJ
    have hx0 := hid hx0
    clear hst
    go_wp2_with fail
    refine (settle_gd fb nb n N x T1 v sub1 seq _ h1.out.fo h1.out.gd hx).mono ?_
    rintro e w2 ⟨rfl, T2, sub2, f2, m2, s2, t2⟩
    have h2 := hid (h1.out.turn f2 m2.gd t2)
    have hJ2 := hid (hset.out T1 sub1 T2 sub2 x _ _ h1.out hJ.out hx0.out m2 s2 t2 h2.out)
    have hlen := hid (s2.len x)
    have htt := hid s2.t
    clear f2 m2 s2 t2 h1 hJ
    go_wp2_with fail
    refine (hcall.out T2 sub2 x _ h2.out hJ2.out hx0.out hx htt.out).mono ?_
    rintro e w3 ⟨c, rfl, h3, hc⟩
    have h3 := hid h3
    have c1 := h3.out.fo.c1
    have cl := h3.out.fo.l hx
    have cr : w3.cell? ⟨nb, x * 9 + 6 + 1, none⟩ = some (.int .i32 ((T2 x).r : Int)) := h3.out.fo.r hx
    clear h2 hJ2
    rcases hc with ⟨rfl, hF⟩ | ⟨s, rfl, hF, hG⟩
    · have hF := hid hF
      clear c1 cl cr
      go_wp2_with fail
      go_ret
      exact ⟨x, T2, sub2, rfl, hx0.out, hx, h3.out, htt.out, hF.out⟩
    · have hFh := hid hF
      have hGh := hid hG
      clear hF hG
      obtain ⟨K, hK⟩ : ∃ K, (T2 x).k s = K := ⟨_, rfl⟩
      have hKN := h3.out.gd.k_lt x s
      have hlt := h3.out.gd.inv.kid_lt hx0.out s
      rw [hK] at hKN hlt hFh hGh
      cases s
      all_goals
        first | rw [show sI false = 0 from rfl] | rw [show sI true = 1 from rfl]
        first | rw [show (T2 x).l = K from hK] at cl | rw [show (T2 x).r = K from hK] at cr
        by_cases hK0 : K = 0
        · subst hK0
          have fin := hid (hFh.out rfl)
          clear hFh hGh hK
          go_wp2_with fail
          go_ret
          exact ⟨x, T2, sub2, rfl, hx0.out, hx, h3.out, htt.out, fin.out⟩
        · have tk : ((K : Int) == 0) = false := by simp; omega
          have hJ3 := hid (hGh.out hK0)
          have hK0h := hid hK0
          have hms2 := hid (ml_is h3.out.fo h3.out.gd hKN)
          have hlt := hid hlt
          clear hFh hGh hK hK0
          go_wp2_with fail
          go_roundw
          case rel => exact ⟨K, rfl, ⟨T2, sub2, hK0h.out, hKN, h3.out, hJ3.out⟩⟩
          case measure => rw [hms2.out, hms.out]; have := hlt.out; have := hlen.out; omega

set_option maxRecDepth 100000 in
set_option maxHeartbeats 1000000 in
theorem seek_at (c1 c2 : Value) (fb nb n N : Nat) (v : Nat → Int) (seq : Nat → List Nat) (lo : Nat) (w w0 : World) (Fin : Tb → (Nat → List Nat) → Nat → World → Prop) (x : Nat) (wr : World)
    (hd : Calls Tryd.prog 46 #[.pointer (some ⟨fb, 0, none⟩), .int .i32 (x : Int), .func (.func 53) #[] #[c1, c2]] wr fun e w' => ∃ (x' : Nat) (T' : Tb) (sub' : Nat → List Nat), e = .returned (.int .i32 (x' : Int)) ∧ x' ≠ 0 ∧ x' < N ∧ HS lo w w0 fb n nb N T' v sub' seq w' ∧ (T' x').t = false ∧ Fin T' sub' x' w') :
    Calls Tryd.prog 22 #[.pointer (some ⟨fb, 0, none⟩), .int .i32 (x : Int), .func (.func 53) #[] #[c1, c2]] wr fun e w' => ∃ (x' : Nat) (T' : Tb) (sub' : Nat → List Nat), e = .returned (.int .i32 (x' : Int)) ∧ x' ≠ 0 ∧ x' < N ∧ HS lo w w0 fb n nb N T' v sub' seq w' ∧ (T' x').up = 0 ∧ (T' x').t = false ∧ (∃ T1 sub1 w1, Fin T1 sub1 x' w1) := by
  have hd := hid hd
  go_enter Tryd.func22, Tryd.ntmps22
  go_wp2_with fail
  refine hd.out.mono ?_
  rintro e w2 ⟨x', T2, sub2, rfl, hx0, hx, h2, t2, hF⟩
  have h2 := hid h2
  have hF := hid hF
  have hx0 := hid hx0
  clear hd t2
  go_wp2_with fail
  refine (h2.out.raise x' hx0.out hx).mono ?_
  rintro e w3 ⟨rfl, T3, sub3, h3, m3, u3, t3⟩
  have fin := hid (And.intro h3 (And.intro u3 t3))
  clear h3 m3 u3 t3
  go_wp2_with fail
  go_ret
  exact ⟨x', T3, sub3, rfl, hx0.out, hx, fin.out.1, fin.out.2.1, fin.out.2.2, T2, sub2, w2, hF.out⟩

set_option maxRecDepth 100000 in
set_option maxHeartbeats 1000000 in
theorem descend_fst (c1 c2 c3 : Value) (fb nb n N : Nat) (v : Nat → Int) (seq : Nat → List Nat) (lo : Nat) (w w0 : World) (J Fin : Tb → (Nat → List Nat) → Nat → World → Prop)
    (hset : ∀ T sub T' sub' x y y', HS lo w w0 fb n nb N T v sub seq y → J T sub x y → x ≠ 0 → Mv N v seq x T sub T' sub' → Stl x T sub T' sub' → Turned (fun k => k = nb) y y' → HS lo w w0 fb n nb N T' v sub' seq y' → J T' sub' x y')
    (hcall : ∀ T sub x y, HS lo w w0 fb n nb N T v sub seq y → J T sub x y → x ≠ 0 → x < N → (T x).t = false → Calls Tryd.prog 62 #[.int .i32 (x : Int), c1, c2, c3] y fun e w' => ∃ c : Int, e = .returned (.int .i64 c) ∧ HS lo w w0 fb n nb N T v sub seq w' ∧ ((c = 2 ∧ Fin T sub x w') ∨ (∃ s : Bool, c = sI s ∧ ((T x).k s = 0 → Fin T sub x w') ∧ ((T x).k s ≠ 0 → J T sub ((T x).k s) w'))))
    (x : Nat) (T : Tb) (sub : Nat → List Nat) (wr : World) (h : HS lo w w0 fb n nb N T v sub seq wr) (hx0 : x ≠ 0) (hx : x < N) (hJ : J T sub x wr) :
    Calls Tryd.prog 46 #[.pointer (some ⟨fb, 0, none⟩), .int .i32 (x : Int), .func (.func 62) #[] #[c1, c2, c3]] wr fun e w' => ∃ (x' : Nat) (T' : Tb) (sub' : Nat → List Nat), e = .returned (.int .i32 (x' : Int)) ∧ x' ≠ 0 ∧ x' < N ∧ HS lo w w0 fb n nb N T' v sub' seq w' ∧ (T' x').t = false ∧ Fin T' sub' x' w' := by
  have hbig := h.fo.big
  have hset := hid hset
  have hcall := hid hcall
  have st : Hid (∃ T1 sub1, x ≠ 0 ∧ x < N ∧ HS lo w w0 fb n nb N T1 v sub1 seq wr ∧ J T1 sub1 x wr) := ⟨T, sub, hx0, hx, h, hJ⟩
  clear h hx0 hx hJ
  go_enter Tryd.func46, Tryd.ntmps46
  go_wp2_with fail
  go_loopw [1, 7] (fun a _ wr => ∃ x : Nat, a = .int .i32 (x : Int) ∧ Hid (∃ T1 sub1, x ≠ 0 ∧ x < N ∧ HS lo w w0 fb n nb N T1 v sub1 seq wr ∧ J T1 sub1 x wr)) (fun a _ wr => ml nb a wr)
  case atStart => exact ⟨x, rfl, st⟩
  case round =>
    clear st
    obtain ⟨x, rfl, hst⟩ := hrel
    obtain ⟨T1, sub1, hx0, hx, h1, hJ⟩ := hst.out
    have hms := hid (ml_is h1.fo h1.gd hx)
    have q1 : (0 : Int) ≤ (x : Int) := by omega
    have q2 : (x : Int) < (N : Int) := by omega
    have h1 := hid h1
    have hJ := hid hJ
    have hx0 := hid hx0
    clear hst
    go_wp2_with fail
    refine (settle_gd fb nb n N x T1 v sub1 seq _ h1.out.fo h1.out.gd hx).mono ?_
    rintro e w2 ⟨rfl, T2, sub2, f2, m2, s2, t2⟩
    have h2 := hid (h1.out.turn f2 m2.gd t2)
    have hJ2 := hid (hset.out T1 sub1 T2 sub2 x _ _ h1.out hJ.out hx0.out m2 s2 t2 h2.out)
    have hlen := hid (s2.len x)
    have htt := hid s2.t
    clear f2 m2 s2 t2 h1 hJ
    go_wp2_with fail
    refine (hcall.out T2 sub2 x _ h2.out hJ2.out hx0.out hx htt.out).mono ?_
    rintro e w3 ⟨c, rfl, h3, hc⟩
    have h3 := hid h3
    have c1 := h3.out.fo.c1
    have cl := h3.out.fo.l hx
    have cr : w3.cell? ⟨nb, x * 9 + 6 + 1, none⟩ = some (.int .i32 ((T2 x).r : Int)) := h3.out.fo.r hx
    clear h2 hJ2
    rcases hc with ⟨rfl, hF⟩ | ⟨s, rfl, hF, hG⟩
    · have hF := hid hF
      clear c1 cl cr
      go_wp2_with fail
      go_ret
      exact ⟨x, T2, sub2, rfl, hx0.out, hx, h3.out, htt.out, hF.out⟩
    · have hFh := hid hF
      have hGh := hid hG
      clear hF hG
      obtain ⟨K, hK⟩ : ∃ K, (T2 x).k s = K := ⟨_, rfl⟩
      have hKN := h3.out.gd.k_lt x s
      have hlt := h3.out.gd.inv.kid_lt hx0.out s
      rw [hK] at hKN hlt hFh hGh
      cases s
      all_goals
        first | rw [show sI false = 0 from rfl] | rw [show sI true = 1 from rfl]
        first | rw [show (T2 x).l = K from hK] at cl | rw [show (T2 x).r = K from hK] at cr
        by_cases hK0 : K = 0
        · subst hK0
          have fin := hid (hFh.out rfl)
          clear hFh hGh hK
          go_wp2_with fail
          go_ret
          exact ⟨x, T2, sub2, rfl, hx0.out, hx, h3.out, htt.out, fin.out⟩
        · have tk : ((K : Int) == 0) = false := by simp; omega
          have hJ3 := hid (hGh.out hK0)
          have hK0h := hid hK0
          have hms2 := hid (ml_is h3.out.fo h3.out.gd hKN)
          have hlt := hid hlt
          clear hFh hGh hK hK0
          go_wp2_with fail
          go_roundw
          case rel => exact ⟨K, rfl, ⟨T2, sub2, hK0h.out, hKN, h3.out, hJ3.out⟩⟩
          case measure => rw [hms2.out, hms.out]; have := hlt.out; have := hlen.out; omega

set_option maxRecDepth 100000 in
set_option maxHeartbeats 1000000 in
theorem seek_fst (c1 c2 c3 : Value) (fb nb n N : Nat) (v : Nat → Int) (seq : Nat → List Nat) (lo : Nat) (w w0 : World) (Fin : Tb → (Nat → List Nat) → Nat → World → Prop) (x : Nat) (wr : World)
    (hd : Calls Tryd.prog 46 #[.pointer (some ⟨fb, 0, none⟩), .int .i32 (x : Int), .func (.func 62) #[] #[c1, c2, c3]] wr fun e w' => ∃ (x' : Nat) (T' : Tb) (sub' : Nat → List Nat), e = .returned (.int .i32 (x' : Int)) ∧ x' ≠ 0 ∧ x' < N ∧ HS lo w w0 fb n nb N T' v sub' seq w' ∧ (T' x').t = false ∧ Fin T' sub' x' w') :
    Calls Tryd.prog 22 #[.pointer (some ⟨fb, 0, none⟩), .int .i32 (x : Int), .func (.func 62) #[] #[c1, c2, c3]] wr fun e w' => ∃ (x' : Nat) (T' : Tb) (sub' : Nat → List Nat), e = .returned (.int .i32 (x' : Int)) ∧ x' ≠ 0 ∧ x' < N ∧ HS lo w w0 fb n nb N T' v sub' seq w' ∧ (T' x').up = 0 ∧ (T' x').t = false ∧ (∃ T1 sub1 w1, Fin T1 sub1 x' w1) := by
  have hd := hid hd
  go_enter Tryd.func22, Tryd.ntmps22
  go_wp2_with fail
  refine hd.out.mono ?_
  rintro e w2 ⟨x', T2, sub2, rfl, hx0, hx, h2, t2, hF⟩
  have h2 := hid h2
  have hF := hid hF
  have hx0 := hid hx0
  clear hd t2
  go_wp2_with fail
  refine (h2.out.raise x' hx0.out hx).mono ?_
  rintro e w3 ⟨rfl, T3, sub3, h3, m3, u3, t3⟩
  have fin := hid (And.intro h3 (And.intro u3 t3))
  clear h3 m3 u3 t3
  go_wp2_with fail
  go_ret
  exact ⟨x', T3, sub3, rfl, hx0.out, hx, fin.out.1, fin.out.2.1, fin.out.2.2, T2, sub2, w2, hF.out⟩

end Go.Proofs.YtpelpcplagfdiaaDoor
