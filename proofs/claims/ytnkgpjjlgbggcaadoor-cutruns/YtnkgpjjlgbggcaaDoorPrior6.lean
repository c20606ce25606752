/- From a spot to the one ahead of it: 'last' and 'prior', walked. -/
import Derived.Test.YtnkgpjjlgbggcaaDoorFirst6
namespace Go.Proofs.YtnkgpjjlgbggcaaDoor
open Go.RowKit
set_option linter.unusedVariables false

/-- The way from the top to a node, all above it settled: what stands ahead of all that is beneath it, and behind. -/
inductive Path (T : Tb) (sub : Nat → List Nat) : Nat → List Nat → List Nat → Prop
  | root (x : Nat) : x ≠ 0 → (T x).up = 0 → Path T sub x [] []
  | left (x p : Nat) (pre post : List Nat) : Path T sub p pre post → p ≠ 0 → x ≠ 0 → (T p).t = false → (T p).l = x → Path T sub x pre (p :: sub (T p).r ++ post)
  | right (x p : Nat) (pre post : List Nat) : Path T sub p pre post → p ≠ 0 → x ≠ 0 → (T p).t = false → (T p).r = x → Path T sub x (pre ++ sub (T p).l ++ [p]) post

section
variable {T T' : Tb} {v : Nat → Int} {sub sub' seq : Nat → List Nat}

theorem Path.seq_is (h : Inv T v sub seq) {x : Nat} {pre post : List Nat} (hP : Path T sub x pre post) : seq x = pre ++ sub x ++ post := by
  induction hP with
  | root x hx hu => rw [h.root x hx hu]; simp
  | left x p pre post _ hp hx ht hl ih =>
    have hu := h.upk p hp false (by rw [show (T p).k false = x from hl]; exact hx)
    rw [show (T p).k false = x from hl] at hu
    rw [h.climb x hx (by rw [hu]; exact hp), hu, ih, h.flat hp ht, show (T p).k false = x from hl]
    simp; rfl
  | right x p pre post _ hp hx ht hr ih =>
    have hu := h.upk p hp true (by rw [show (T p).k true = x from hr]; exact hx)
    rw [show (T p).k true = x from hr] at hu
    rw [h.climb x hx (by rw [hu]; exact hp), hu, ih, h.flat hp ht, show (T p).k true = x from hr]
    simp; rfl

theorem Path.back (h : Inv T v sub seq) {x : Nat} {pre post : List Nat} (hP : Path T sub x pre post) :
    ((T x).up = 0 ∧ pre = [] ∧ post = []) ∨ ∃ p pp qq, p ≠ 0 ∧ (T x).up = p ∧ Path T sub p pp qq ∧ (T p).t = false ∧ (((T p).l = x ∧ pre = pp ∧ post = p :: sub (T p).r ++ qq) ∨ ((T p).r = x ∧ pre = pp ++ sub (T p).l ++ [p] ∧ post = qq)) := by
  cases hP with
  | root _ hx hu => exact Or.inl ⟨hu, rfl, rfl⟩
  | left _ p _ qq hp' hp hx ht hl =>
    have hu := h.upk p hp false (by rw [show (T p).k false = x from hl]; exact hx)
    rw [show (T p).k false = x from hl] at hu
    exact Or.inr ⟨p, pre, qq, hp, hu, hp', ht, Or.inl ⟨hl, rfl, rfl⟩⟩
  | right _ p pp _ hp' hp hx ht hr =>
    have hu := h.upk p hp true (by rw [show (T p).k true = x from hr]; exact hx)
    rw [show (T p).k true = x from hr] at hu
    exact Or.inr ⟨p, pp, post, hp, hu, hp', ht, Or.inr ⟨hr, rfl, rfl⟩⟩

theorem Path.ne {x : Nat} {pre post : List Nat} (hP : Path T sub x pre post) : x ≠ 0 := by cases hP <;> assumption

/-- Settling a node leaves the way to it. -/
theorem Path.settle (h : Inv T v sub seq) {x : Nat} (hx : x ≠ 0) (s : Stl x T sub T' sub') {z : Nat} {pre post : List Nat} (hP : Path T sub z pre post) : (sub x).length ≤ (sub z).length → Path T' sub' z pre post := by
  have keep : ∀ p, p ≠ 0 → (sub x).length < (sub p).length → T' p = T p ∧ p ≠ x := fun p hp hl => by
    have h1 : p ≠ x := fun e => by rw [e] at hl; omega
    refine ⟨s.o p h1 (fun _ e => ?_), h1⟩
    have := h.up_lt hp (by rw [e]; exact hx)
    rw [e] at this
    omega
  induction hP with
  | root z hz hu => exact fun _ => Path.root z hz (by rw [s.up]; exact hu)
  | left z p pre post _ hp hz ht hl ih =>
    intro hle
    have hk := h.kid_lt hp false
    rw [show (T p).k false = z from hl] at hk
    obtain ⟨e1, e2⟩ := keep p hp (by omega)
    have e3 : sub' (T p).r = sub (T p).r := s.s _ (fun h0 e => e2 ((h.upk p hp true h0).symm.trans e))
    have := Path.left z p pre post (ih (by omega)) hp hz (by rw [e1]; exact ht) (by rw [e1]; exact hl)
    rw [e1, e3] at this
    exact this
  | right z p pre post _ hp hz ht hr ih =>
    intro hle
    have hk := h.kid_lt hp true
    rw [show (T p).k true = z from hr] at hk
    obtain ⟨e1, e2⟩ := keep p hp (by omega)
    have e3 : sub' (T p).l = sub (T p).l := s.s _ (fun h0 e => e2 ((h.upk p hp false h0).symm.trans e))
    have := Path.right z p pre post (ih (by omega)) hp hz (by rw [e1]; exact ht) (by rw [e1]; exact hr)
    rw [e1, e3] at this
    exact this
end

set_option maxRecDepth 100000 in
theorem last1_ok (x : Nat) (w : World) : Calls Tryd.prog 61 #[.int .i32 (x : Int)] w fun e w' => e = .returned (.int .i64 1) ∧ w = w' := by
  go_enter Tryd.func61, Tryd.ntmps61
  go_wp2_with fail
  go_ret
  exact ⟨rfl, rfl⟩

section
variable {lo fb n nb N : Nat} {w w0 wr : World} {T : Tb} {v : Nat → Int} {sub seq : Nat → List Nat} {pp par : Nat → Nat} {adj : Nat → Nat → Prop}

set_option maxRecDepth 100000 in
/-- From a spot down to the last one beneath it. -/
theorem HS.lastOf (h : HS lo w w0 fb n nb N T v sub seq pp par adj wr) (x : Nat) (hx : x < N) (post : List Nat) (hP : ∃ pre, Path T sub x pre post) :
    Calls Tryd.prog 58 #[.pointer (some ⟨fb, 0, none⟩), .int .i32 (x : Int)] wr fun e w' => ∃ (x' : Nat) (T' : Tb) (sub' : Nat → List Nat), e = .returned (.int .i32 (x' : Int)) ∧ x' ≠ 0 ∧ x' < N ∧ HS lo w w0 fb n nb N T' v sub' seq pp par adj w' ∧ (T' x').t = false ∧ (T' x').r = 0 ∧ seq x' = seq x ∧ (∃ pre, Path T' sub' x' pre post) ∧ Turned (fun k => k = nb) wr w' := by
  have hx0 : x ≠ 0 := by obtain ⟨pre, hP⟩ := hP; exact hP.ne
  have hd := descend_last fb nb n N v seq pp par adj lo w w0 (fun T sub y wy => Turned (fun k => k = nb) wr wy ∧ seq y = seq x ∧ ∃ pre, Path T sub y pre post) (fun T sub y wy => (T y).r = 0 ∧ seq y = seq x ∧ (∃ pre, Path T sub y pre post) ∧ Turned (fun k => k = nb) wr wy) (by
    rintro T1 sub1 T2 sub2 y y1 y2 h1 ⟨b1, hq, pre, hp⟩ hy m s t h2
    exact ⟨b1.trans t, hq, pre, hp.settle h1.lc.gd.inv hy s (Nat.le_refl _)⟩) (by
    rintro T1 sub1 y y1 h1 ⟨b1, hq, pre, hp⟩ hy hyN ht
    refine (last1_ok y y1).mono ?_
    rintro e y2 ⟨rfl, rfl⟩
    refine ⟨_, rfl, h1, Or.inr ⟨true, rfl, fun h0 => ⟨h0, hq, ⟨pre, hp⟩, b1⟩, fun h0 => ⟨b1, ?_, _, Path.right _ y pre post hp hy h0 ht rfl⟩⟩⟩
    have hu := h1.lc.gd.inv.upk y hy true h0
    have := seq_up h1.lc.gd.inv h0 (by rw [hu]; exact hy)
    rw [hu] at this
    exact this.symm.trans hq) x T sub wr h hx0 hx ⟨Turned.refl _ _, rfl, hP⟩
  have hd := hid hd
  clear h hP
  go_enter Tryd.func58, Tryd.ntmps58
  go_wp2_with fail
  refine hd.out.mono ?_
  rintro e w' ⟨x', T', sub', rfl, h1, h2, h3, h4, h5, h6, h7, h8⟩
  have fin := hid (And.intro h1 (And.intro h2 (And.intro h3 (And.intro h4 (And.intro h5 (And.intro h6 (And.intro h7 h8)))))))
  clear h1 h2 h3 h4 h5 h6 h7 h8
  go_wp2_with fail
  go_ret
  obtain ⟨h1, h2, h3, h4, h5, h6, h7, h8⟩ := fin.out
  exact ⟨x', T', sub', rfl, h1, h2, h3, h4, h5, h6, h7, h8⟩

theorem mu_is {x : Nat} (h : Fo wr fb nb n N (real T pp)) (hG : Gd N T v sub seq) (hx : x < N) : N + 1 - ml nb (.int .i32 (x : Int)) wr = N + 1 - (sub x).length := by rw [ml_is h hG hx]

set_option maxRecDepth 100000 in
set_option maxHeartbeats 2000000 in
theorem HS.prior (h : HS lo w w0 fb n nb N T v sub seq pp par adj wr) (y : Nat) (hy : y < N) (hpp : pp y = 0) (post : List Nat) (hP : ∃ pre, Path T sub y pre post) (ht : (T y).t = false) :
    Calls Tryd.prog 59 #[.pointer (some ⟨fb, 0, none⟩), .int .i32 (y : Int)] wr fun e w' => ∃ (z : Nat) (T' : Tb) (sub' : Nat → List Nat), e = .returned (.int .i32 (z : Int)) ∧ z < N ∧ HS lo w w0 fb n nb N T' v sub' seq pp par adj w' ∧ Turned (fun k => k = nb) wr w' ∧
      ((z = 0 ∧ seq y = y :: (sub (T y).r ++ post)) ∨ (z ≠ 0 ∧ seq z = seq y ∧ (T' z).t = false ∧ ∃ post', (∃ pre, Path T' sub' z pre post') ∧ sub' (T' z).r ++ post' = y :: (sub (T y).r ++ post))) := by
  obtain ⟨pre, hP⟩ := hP
  have hy0 := hP.ne
  have hbig := h.fo.big
  have c1 := h.fo.c1
  have cl : wr.cell? ⟨nb, y * 9 + 6, none⟩ = some (.int .i32 ((T y).l : Int)) := h.fo.l hy
  have q1 : (0 : Int) ≤ (y : Int) := by omega
  have q2 : (y : Int) < (N : Int) := by omega
  obtain ⟨L, hL⟩ : ∃ L, (T y).l = L := ⟨_, rfl⟩
  rw [hL] at cl
  by_cases hL0 : L = 0
  · -- up
    have key : sub y ++ post = y :: (sub (T y).r ++ post) := by
      have := h.lc.gd.inv.flat hy0 ht
      rw [this, show (T y).k false = 0 from hL.trans hL0, h.lc.gd.inv.sub0]
      rfl
    have st : Hid (∃ pa qa, y ≠ 0 ∧ y < N ∧ Path T sub y pa qa ∧ sub y ++ qa = y :: (sub (T y).r ++ post) ∧ HS lo w w0 fb n nb N T v sub seq pp par adj wr ∧ Turned (fun k => k = nb) wr wr) := ⟨pre, post, hy0, hy, hP, key, h, Turned.refl _ _⟩
    have hpp := hid hpp
    have hy0 := hid hy0
    subst hL0
    clear h hP ht key hL
    go_enter Tryd.func59, Tryd.ntmps59
    go_wp2_with fail
    go_loopw [1] (fun u wy => ∃ a : Nat, u = .int .i32 (a : Int) ∧ Hid (∃ pa qa, a ≠ 0 ∧ a < N ∧ Path T sub a pa qa ∧ sub a ++ qa = y :: (sub (T y).r ++ post) ∧ seq a = seq y ∧ HS lo w w0 fb n nb N T v sub seq pp par adj wy ∧ Turned (fun k => k = nb) wr wy)) (fun u wy => N + 1 - ml nb u wy)
    case atStart => exact ⟨y, rfl, by obtain ⟨pa, qa, a1, a2, a3, a4, a5, a6⟩ := st.out; exact ⟨pa, qa, a1, a2, a3, a4, rfl, a5, a6⟩⟩
    case round =>
      rename_i wr0 wy
      clear st cl c1
      obtain ⟨a, rfl, hst⟩ := hrel
      obtain ⟨pa, qa, ha0, haN, hPa, hka, hsa, ha, hta⟩ := hst.out
      have q3 : (0 : Int) ≤ (a : Int) := by omega
      have q4 : (a : Int) < (N : Int) := by omega
      have hmu := hid (mu_is ha.fo ha.lc.gd haN)
      have hw := where_ok fb nb n N a (real T pp) _ ha.fo haN (ha.lc.up_lt a)
      have had := hid ha.drew
      have htd := hid hta.drew
      have c1' := had.out.fo.c1
      have cu' := had.out.fo.up haN
      rcases hPa.back ha.lc.gd.inv with ⟨hu, hpa, hqa⟩ | ⟨p, pq, qq, hp0, hup, hPp, htp, hside⟩
      · rw [real_up0 hu, ha.lc.pst a y ha0 hy0.out hsa, hpp.out] at cu'
        rw [ha.lc.where_top ha0 hu] at hw
        have hw := hid hw
        have fin : Hid (seq y = y :: (sub (T y).r ++ post)) := hid (by
          rw [← hsa, hPa.seq_is ha.lc.gd.inv, hpa, List.nil_append]; exact hka)
        have hN1 : 0 < N := by omega
        clear hst hPa hka hsa hu hpa hqa ha hta
        go_wp2_with fail
        refine hw.out.mono ?_
        rintro e w' ⟨rfl, rfl⟩
        generalize World.drew _ = wz at had htd c1' cu' ⊢
        go_wp2_with fail
        go_ret
        exact ⟨0, T, sub, rfl, hN1, had.out, htd.out, Or.inl ⟨rfl, fin.out⟩⟩
      · have hu0 : (T a).up ≠ 0 := by rw [hup]; exact hp0
        rw [real_up1 hu0, hup] at cu'
        rw [ha.lc.where_in ha0 hu0] at hw
        have hpN : p < N := by rw [← hup]; exact ha.lc.gd.up_lt a
        rcases hside with ⟨hl, rfl, rfl⟩ | ⟨hr, rfl, rfl⟩
        · have hwh : whr T a = false := by
            unfold whr
            rw [hup]
            exact decide_eq_false (fun e => by
              have := ha.lc.gd.inv.kids hp0 false (by rw [show (T p).k false = a from hl]; exact ha0)
              exact this (e.trans hl.symm))
          rw [hwh, show sI false = 0 from rfl] at hw
          have hw := hid hw
          have hlt := ha.lc.gd.inv.kid_lt hp0 false
          rw [show (T p).k false = a from hl] at hlt
          have hmu2 := hid (mu_is had.out.fo had.out.lc.gd hpN)
          have hlen := hid (ha.lc.gd.len p)
          have hlt := hid hlt
          have hrel : Hid (∃ pa qa, p ≠ 0 ∧ p < N ∧ Path T sub p pa qa ∧ sub p ++ qa = y :: (sub (T y).r ++ post) ∧ seq p = seq y) := by
            refine ⟨pa, qq, hp0, hpN, hPp, ?_, ?_⟩
            · rw [← hka, ha.lc.gd.inv.flat hp0 htp, show (T p).k false = a from hl]; simp; rfl
            · rw [← hsa, ha.lc.gd.inv.climb a ha0 hu0, hup]
          clear hst hPa hka hsa hPp hup hwh hl ha htp hta hu0
          go_wp2_with fail
          refine hw.out.mono ?_
          rintro e w' ⟨rfl, rfl⟩
          generalize World.drew _ = wz at had htd c1' cu' hmu2 ⊢
          clear hw
          go_wp2_with fail
          go_roundw
          case rel => exact ⟨p, rfl, by obtain ⟨x1, x2, x3, x4, x5, x6, x7⟩ := hrel.out; exact ⟨x1, x2, x3, x4, x5, x6, x7, had.out, htd.out⟩⟩
          case measure => rw [hmu2.out, hmu.out]; have := hlt.out; have := hlen.out; omega
        · have hwh : whr T a = true := by unfold whr; rw [hup]; exact decide_eq_true hr
          rw [hwh, show sI true = 1 from rfl] at hw
          have hw := hid hw
          have hrel : Hid (∃ post', (∃ pre, Path T sub p pre post') ∧ sub (T p).r ++ post' = y :: (sub (T y).r ++ post)) := ⟨qa, ⟨pq, hPp⟩, by rw [hr]; exact hka⟩
          have hsp : Hid (seq p = seq y) := hid (by rw [← hsa, ha.lc.gd.inv.climb a ha0 hu0, hup])
          have htp := hid htp
          have hp0 := hid hp0
          clear hst hPa hka hsa hPp hup hwh hr ha hta hu0
          go_wp2_with fail
          refine hw.out.mono ?_
          rintro e w' ⟨rfl, rfl⟩
          generalize World.drew _ = wz at had htd c1' cu' ⊢
          clear hw
          go_wp2_with fail
          go_ret
          exact ⟨p, T, sub, rfl, hpN, had.out, htd.out, Or.inr ⟨hp0.out, hsp.out, htp.out, hrel.out⟩⟩
  · -- down
    have tL : ((L : Int) != 0) = true := by simp; omega
    have hLN : L < N := by rw [← hL]; exact h.lc.gd.l_lt y
    have hP2 : ∃ pre, Path T sub L pre (y :: sub (T y).r ++ post) := ⟨pre, Path.left L y pre post hP hy0 hL0 ht hL⟩
    have hsL : Hid (seq L = seq y) := hid (by
      have hu := h.lc.gd.inv.upk y hy0 false (by rw [show (T y).k false = L from hL]; exact hL0)
      rw [show (T y).k false = L from hL] at hu
      have := seq_up h.lc.gd.inv hL0 (by rw [hu]; exact hy0)
      rw [hu] at this
      exact this.symm)
    have hla := hid (h.lastOf L hLN _ hP2)
    clear hP ht hL h hP2
    go_enter Tryd.func59, Tryd.ntmps59
    go_wp2_with fail
    refine hla.out.mono ?_
    rintro e w4 ⟨z, T4, sub4, rfl, hz0, hzN, h4, t4, l4, hsz, hPz, tz⟩
    have fin : Hid (HS lo w w0 fb n nb N T4 v sub4 seq pp par adj w4 ∧ Turned (fun k => k = nb) wr w4 ∧ z ≠ 0 ∧ seq z = seq y ∧ (T4 z).t = false ∧ ∃ post', (∃ pre, Path T4 sub4 z pre post') ∧ sub4 (T4 z).r ++ post' = y :: (sub (T y).r ++ post)) := ⟨h4, tz, hz0, hsz.trans hsL.out, t4, _, hPz, by rw [l4, h4.lc.gd.inv.sub0, List.nil_append]; rfl⟩
    clear h4 t4 l4 hPz hz0 hsz tz hla
    go_wp2_with fail
    go_ret
    exact ⟨z, T4, sub4, rfl, hzN, fin.out.1, fin.out.2.1, Or.inr fin.out.2.2⟩
end

end Go.Proofs.YtnkgpjjlgbggcaaDoor
