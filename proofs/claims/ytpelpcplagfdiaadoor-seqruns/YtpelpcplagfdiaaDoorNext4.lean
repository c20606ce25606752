/- From a node to the one behind it: 'next', walked. -/
import Derived.Test.YtpelpcplagfdiaaDoorJoin4
namespace Go.Proofs.YtpelpcplagfdiaaDoor
open Go.RowKit
set_option linter.unusedVariables false

/-- The way from the top to a node, all above it settled: what stands ahead of all that is beneath it, and behind. -/
inductive Path (T : Tb) (sub : Nat → List Nat) : Nat → List Nat → List Nat → Prop
  | root (x : Nat) : x ≠ 0 → (T x).up = 0 → Path T sub x [] []
  | left (x p : Nat) (pre post : List Nat) : Path T sub p pre post → p ≠ 0 → x ≠ 0 → (T p).t = false → (T p).l = x → Path T sub x pre (p :: sub (T p).r ++ post)
  | right (x p : Nat) (pre post : List Nat) : Path T sub p pre post → p ≠ 0 → x ≠ 0 → (T p).t = false → (T p).r = x → Path T sub x (pre ++ sub (T p).l ++ [p]) post

section
variable {T T' : Tb} {v : Nat → Int} {sub sub' seq : Nat → List Nat}

theorem Path.seq_is (h : Inv T v sub seq) {x : Nat} {pre post : List Nat} (hP : Path T sub x pre post) : seq x = pre ++ sub x ++ post := by
  induction hP with
  | root x hx hu => rw [h.root x hx hu]; simp
  | left x p pre post _ hp hx ht hl ih =>
    have hu := h.upk p hp false (by rw [show (T p).k false = x from hl]; exact hx)
    rw [show (T p).k false = x from hl] at hu
    rw [h.climb x hx (by rw [hu]; exact hp), hu, ih, h.flat hp ht, show (T p).k false = x from hl]
    simp; rfl
  | right x p pre post _ hp hx ht hr ih =>
    have hu := h.upk p hp true (by rw [show (T p).k true = x from hr]; exact hx)
    rw [show (T p).k true = x from hr] at hu
    rw [h.climb x hx (by rw [hu]; exact hp), hu, ih, h.flat hp ht, show (T p).k true = x from hr]
    simp; rfl

theorem Path.back (h : Inv T v sub seq) {x : Nat} {pre post : List Nat} (hP : Path T sub x pre post) :
    ((T x).up = 0 ∧ pre = [] ∧ post = []) ∨ ∃ p pp qq, p ≠ 0 ∧ (T x).up = p ∧ Path T sub p pp qq ∧ (T p).t = false ∧ (((T p).l = x ∧ pre = pp ∧ post = p :: sub (T p).r ++ qq) ∨ ((T p).r = x ∧ pre = pp ++ sub (T p).l ++ [p] ∧ post = qq)) := by
  cases hP with
  | root _ hx hu => exact Or.inl ⟨hu, rfl, rfl⟩
  | left _ p _ qq hp' hp hx ht hl =>
    have hu := h.upk p hp false (by rw [show (T p).k false = x from hl]; exact hx)
    rw [show (T p).k false = x from hl] at hu
    exact Or.inr ⟨p, pre, qq, hp, hu, hp', ht, Or.inl ⟨hl, rfl, rfl⟩⟩
  | right _ p pp _ hp' hp hx ht hr =>
    have hu := h.upk p hp true (by rw [show (T p).k true = x from hr]; exact hx)
    rw [show (T p).k true = x from hr] at hu
    exact Or.inr ⟨p, pp, post, hp, hu, hp', ht, Or.inr ⟨hr, rfl, rfl⟩⟩

theorem Path.ne {x : Nat} {pre post : List Nat} (hP : Path T sub x pre post) : x ≠ 0 := by cases hP <;> assumption

/-- Settling a node leaves the way to it. -/
theorem Path.settle (h : Inv T v sub seq) {x : Nat} (hx : x ≠ 0) (s : Stl x T sub T' sub') {z : Nat} {pre post : List Nat} (hP : Path T sub z pre post) : (sub x).length ≤ (sub z).length → Path T' sub' z pre post := by
  have keep : ∀ p, p ≠ 0 → (sub x).length < (sub p).length → T' p = T p ∧ p ≠ x := fun p hp hl => by
    have h1 : p ≠ x := fun e => by rw [e] at hl; omega
    refine ⟨s.o p h1 (fun _ e => ?_), h1⟩
    have := h.up_lt hp (by rw [e]; exact hx)
    rw [e] at this
    omega
  induction hP with
  | root z hz hu => exact fun _ => Path.root z hz (by rw [s.up]; exact hu)
  | left z p pre post _ hp hz ht hl ih =>
    intro hle
    have hk := h.kid_lt hp false
    rw [show (T p).k false = z from hl] at hk
    obtain ⟨e1, e2⟩ := keep p hp (by omega)
    have e3 : sub' (T p).r = sub (T p).r := s.s _ (fun h0 e => e2 ((h.upk p hp true h0).symm.trans e))
    have := Path.left z p pre post (ih (by omega)) hp hz (by rw [e1]; exact ht) (by rw [e1]; exact hl)
    rw [e1, e3] at this
    exact this
  | right z p pre post _ hp hz ht hr ih =>
    intro hle
    have hk := h.kid_lt hp true
    rw [show (T p).k true = z from hr] at hk
    obtain ⟨e1, e2⟩ := keep p hp (by omega)
    have e3 : sub' (T p).l = sub (T p).l := s.s _ (fun h0 e => e2 ((h.upk p hp false h0).symm.trans e))
    have := Path.right z p pre post (ih (by omega)) hp hz (by rw [e1]; exact ht) (by rw [e1]; exact hr)
    rw [e1, e3] at this
    exact this
end

section
variable {lo fb n nb N : Nat} {w w0 wr : World} {T : Tb} {v : Nat → Int} {sub seq : Nat → List Nat}

/-- From a node down to the first one beneath it. -/
theorem HS.firstOf (h : HS lo w w0 fb n nb N T v sub seq wr) (x b : Nat) (hx : x < N) (pre : List Nat) (hP : ∃ post, Path T sub x pre post) (hb : Box wr b false) :
    Calls Tryd.prog 46 #[.pointer (some ⟨fb, 0, none⟩), .int .i32 (x : Int), .func (.func 47) #[] #[.pointer (some ⟨b, 0, none⟩)]] wr fun e w' => ∃ (x' : Nat) (T' : Tb) (sub' : Nat → List Nat), e = .returned (.int .i32 (x' : Int)) ∧ x' ≠ 0 ∧ x' < N ∧ HS lo w w0 fb n nb N T' v sub' seq w' ∧ (T' x').t = false ∧ (T' x').l = 0 ∧ seq x' = seq x ∧ ∃ post, Path T' sub' x' pre post := by
  have hx0 : x ≠ 0 := by obtain ⟨post, hP⟩ := hP; exact hP.ne
  refine (descend_to (.pointer (some ⟨b, 0, none⟩)) fb nb n N v seq lo w w0 (fun T sub y wy => Box wy b false ∧ seq y = seq x ∧ ∃ post, Path T sub y pre post) (fun T sub y wy => (T y).l = 0 ∧ seq y = seq x ∧ ∃ post, Path T sub y pre post) ?_ ?_ x T sub wr h hx0 hx ⟨hb, rfl, hP⟩).mono ?_
  · rintro T1 sub1 T2 sub2 y y1 y2 h1 ⟨b1, hq, post, hp⟩ hy m s t h2
    exact ⟨b1.of h1.fo t, hq, post, hp.settle h1.gd.inv hy s (Nat.le_refl _)⟩
  · rintro T1 sub1 y y1 h1 ⟨b1, hq, post, hp⟩ hy hyN ht
    refine (toward1_ok false y b y1 b1).mono ?_
    rintro e y2 ⟨rfl, rfl⟩
    refine ⟨_, rfl, h1, Or.inr ⟨false, rfl, fun h0 => ⟨h0, hq, post, hp⟩, fun h0 => ⟨b1, ?_, _, Path.left _ y pre post hp hy h0 ht rfl⟩⟩⟩
    have hu := h1.gd.inv.upk y hy false h0
    have := seq_up h1.gd.inv h0 (by rw [hu]; exact hy)
    rw [hu] at this
    exact this.symm.trans hq
  · rintro e w' ⟨x', T', sub', rfl, h1, h2, h3, h4, h5, h6, h7⟩
    exact ⟨x', T', sub', rfl, h1, h2, h3, h4, h5, h6, h7⟩

theorem mu_is {x : Nat} (h : Fo wr fb nb n N T) (hG : Gd N T v sub seq) (hx : x < N) : N + 1 - ml nb (.int .i32 (x : Int)) wr = N + 1 - (sub x).length := by rw [ml_is h hG hx]

set_option maxRecDepth 100000 in
set_option maxHeartbeats 2000000 in
theorem HS.next (h : HS lo w w0 fb n nb N T v sub seq wr) (y : Nat) (hy : y < N) (pre : List Nat) (hP : ∃ post, Path T sub y pre post) (ht : (T y).t = false) :
    Calls Tryd.prog 55 #[.pointer (some ⟨fb, 0, none⟩), .int .i32 (y : Int)] wr fun e w' => ∃ (z : Nat) (T' : Tb) (sub' : Nat → List Nat), e = .returned (.int .i32 (z : Int)) ∧ z < N ∧ HS lo w w0 fb n nb N T' v sub' seq w' ∧
      ((z = 0 ∧ seq y = pre ++ sub (T y).l ++ [y]) ∨ (z ≠ 0 ∧ seq z = seq y ∧ (T' z).t = false ∧ ∃ pre', (∃ post, Path T' sub' z pre' post) ∧ pre' ++ sub' (T' z).l = pre ++ sub (T y).l ++ [y])) := by
  obtain ⟨post, hP⟩ := hP
  have hy0 := hP.ne
  have hbig := h.fo.big
  have c1 := h.fo.c1
  have cr : wr.cell? ⟨nb, y * 9 + 6 + 1, none⟩ = some (.int .i32 ((T y).r : Int)) := h.fo.r hy
  have q1 : (0 : Int) ≤ (y : Int) := by omega
  have q2 : (y : Int) < (N : Int) := by omega
  obtain ⟨R, hR⟩ : ∃ R, (T y).r = R := ⟨_, rfl⟩
  rw [hR] at cr
  by_cases hR0 : R = 0
  · -- up
    have key : pre ++ sub y = pre ++ sub (T y).l ++ [y] := by
      have := h.gd.inv.flat hy0 ht
      rw [this, show (T y).k true = 0 from hR.trans hR0, h.gd.inv.sub0]
      simp; rfl
    have st : Hid (∃ pa qa, y ≠ 0 ∧ y < N ∧ Path T sub y pa qa ∧ pa ++ sub y = pre ++ sub (T y).l ++ [y] ∧ seq y = seq y ∧ HS lo w w0 fb n nb N T v sub seq wr) := ⟨pre, post, hy0, hy, hP, key, rfl, h⟩
    subst hR0
    clear h hP ht key hR
    go_enter Tryd.func55, Tryd.ntmps55
    go_wp2_with fail
    go_loopw [1] (fun u wy => ∃ a : Nat, u = .int .i32 (a : Int) ∧ Hid (∃ pa qa, a ≠ 0 ∧ a < N ∧ Path T sub a pa qa ∧ pa ++ sub a = pre ++ sub (T y).l ++ [y] ∧ seq a = seq y ∧ HS lo w w0 fb n nb N T v sub seq wy)) (fun u wy => N + 1 - ml nb u wy)
    case atStart => exact ⟨y, rfl, by obtain ⟨pa, qa, a1, a2, a3, a4, _, a5⟩ := st.out; exact ⟨pa, qa, a1, a2, a3, a4, rfl, a5⟩⟩
    case round =>
      clear st cr c1
      obtain ⟨a, rfl, hst⟩ := hrel
      obtain ⟨pa, qa, ha0, haN, hPa, hka, hsa, ha⟩ := hst.out
      have c1 := ha.fo.c1
      have cu := ha.fo.up haN
      have q3 : (0 : Int) ≤ (a : Int) := by omega
      have q4 : (a : Int) < (N : Int) := by omega
      have hmu := hid (mu_is ha.fo ha.gd haN)
      rcases hPa.back ha.gd.inv with ⟨hu, hpa, hqa⟩ | ⟨p, pp, qq, hp0, hup, hPp, htp, hside⟩
      · rw [hu] at cu
        have fin : Hid (seq y = pre ++ sub (T y).l ++ [y]) := hid (by
          rw [← hsa, hPa.seq_is ha.gd.inv, hqa, List.append_nil]; exact hka)
        have ha := hid ha
        have hN1 : 0 < N := by omega
        clear hst hPa hka hsa hu hpa hqa
        go_wp2_with fail
        go_ret
        exact ⟨0, T, sub, rfl, hN1, ha.out, Or.inl ⟨rfl, fin.out⟩⟩
      · rw [hup] at cu
        have tp : ((p : Int) != 0) = true := by simp; omega
        have hpN : p < N := by rw [← hup]; exact ha.gd.up_lt a
        have hw := where_ok fb nb n N a T wr ha.fo haN (ha.gd.up_lt a)
        rcases hside with ⟨hl, rfl, rfl⟩ | ⟨hr, rfl, rfl⟩
        · have hwh : whr T a = false := by
            unfold whr
            rw [hup]
            exact decide_eq_false (fun e => by
              have := ha.gd.inv.kids hp0 false (by rw [show (T p).k false = a from hl]; exact ha0)
              exact this (e.trans hl.symm))
          rw [hwh] at hw
          have hw : Hid (Calls Tryd.prog 57 #[.pointer (some ⟨fb, 0, none⟩), .int .i32 (a : Int)] wr fun e w' => e = .returned (.int .i64 0) ∧ w' = wr.drew) := hw
          have had := hid ha.drew
          have hrel : Hid (∃ pre', (∃ post, Path T sub p pre' post) ∧ pre' ++ sub (T p).l = pre ++ sub (T y).l ++ [y]) := ⟨pa, ⟨qq, hPp⟩, by rw [hl]; exact hka⟩
          have c1' := had.out.fo.c1
          have cu' : wr.drew.cell? ⟨nb, a * 9 + 5, none⟩ = some (.int .i32 (p : Int)) := by rw [← hup]; exact had.out.fo.up haN
          have hsp : Hid (seq p = seq y) := hid (by rw [← hsa, ha.gd.inv.climb a ha0 (by rw [hup]; exact hp0), hup])
          have htp := hid htp
          have hp0 := hid hp0
          clear hst hPa hka hsa hPp hup hwh hl ha
          go_wp2_with fail
          refine hw.out.mono ?_
          rintro e w' ⟨rfl, rfl⟩
          generalize wr.drew = wz at had c1' cu' ⊢
          clear c1 cu hw
          go_wp2_with fail
          go_ret
          exact ⟨p, T, sub, rfl, hpN, had.out, Or.inr ⟨hp0.out, hsp.out, htp.out, hrel.out⟩⟩
        · have hwh : whr T a = true := by unfold whr; rw [hup]; exact decide_eq_true hr
          rw [hwh] at hw
          have hw : Hid (Calls Tryd.prog 57 #[.pointer (some ⟨fb, 0, none⟩), .int .i32 (a : Int)] wr fun e w' => e = .returned (.int .i64 1) ∧ w' = wr.drew) := hw
          have had := hid ha.drew
          have c1' := had.out.fo.c1
          have cu' : wr.drew.cell? ⟨nb, a * 9 + 5, none⟩ = some (.int .i32 (p : Int)) := by rw [← hup]; exact had.out.fo.up haN
          have hlt := ha.gd.inv.kid_lt hp0 true
          rw [show (T p).k true = a from hr] at hlt
          have hmu2 := hid (mu_is had.out.fo had.out.gd hpN)
          have hlen := hid (ha.gd.len p)
          have hlt := hid hlt
          have hrel : Hid (∃ pa qa, p ≠ 0 ∧ p < N ∧ Path T sub p pa qa ∧ pa ++ sub p = pre ++ sub (T y).l ++ [y] ∧ seq p = seq y ∧ HS lo w w0 fb n nb N T v sub seq wr.drew) := by
            refine ⟨pp, qa, hp0, hpN, hPp, ?_, ?_, ha.drew⟩
            · rw [← hka, ha.gd.inv.flat hp0 htp, show (T p).k true = a from hr]; simp; rfl
            · rw [← hsa, ha.gd.inv.climb a ha0 (by rw [hup]; exact hp0), hup]
          clear hst hPa hka hsa hPp hup hwh hr ha htp
          go_wp2_with fail
          refine hw.out.mono ?_
          rintro e w' ⟨rfl, rfl⟩
          generalize wr.drew = wz at had c1' cu' hmu2 hrel ⊢
          clear c1 cu hw
          go_wp2_with fail
          go_roundw
          case rel => exact ⟨p, rfl, hrel⟩
          case measure => rw [hmu2.out, hmu.out]; have := hlt.out; have := hlen.out; omega
  · -- down
    have tR : ((R : Int) != 0) = true := by simp; omega
    have hRN : R < N := by rw [← hR]; exact h.gd.r_lt y
    have hP2 : Hid (∃ post, Path T sub R (pre ++ sub (T y).l ++ [y]) post) := ⟨post, Path.right R y pre post hP hy0 hR0 ht hR⟩
    have hsR : Hid (seq R = seq y) := hid (by
      have hu := h.gd.inv.upk y hy0 true (by rw [show (T y).k true = R from hR]; exact hR0)
      rw [show (T y).k true = R from hR] at hu
      have := seq_up h.gd.inv hR0 (by rw [hu]; exact hy0)
      rw [hu] at this
      exact this.symm)
    have h := hid h
    have htw := toward_ok false wr
    rw [show sI false = 0 from rfl] at htw
    have htw := hid htw
    clear hP ht hR
    go_enter Tryd.func55, Tryd.ntmps55
    go_wp2_with fail
    refine htw.out.mono ?_
    rintro e w3 ⟨rfl, hw3⟩
    have h3 : Hid (HS lo w w0 fb n nb N T v sub seq w3) := by rw [hw3]; exact h.out.alloc _
    have hb : Hid (Box w3 wr.heap.size false) := by rw [hw3]; exact heap_alloc_new wr _
    generalize wr.heap.size = bb at hb ⊢
    clear hw3 h htw c1 cr
    go_wp2_with fail
    refine (h3.out.firstOf R bb hRN _ hP2.out hb.out).mono ?_
    rintro e w4 ⟨z, T4, sub4, rfl, hz0, hzN, h4, t4, l4, hsz, hPz⟩
    have fin : Hid (HS lo w w0 fb n nb N T4 v sub4 seq w4 ∧ z ≠ 0 ∧ seq z = seq y ∧ (T4 z).t = false ∧ ∃ pre', (∃ post, Path T4 sub4 z pre' post) ∧ pre' ++ sub4 (T4 z).l = pre ++ sub (T y).l ++ [y]) := ⟨h4, hz0, hsz.trans hsR.out, t4, _, hPz, by rw [l4, h4.gd.inv.sub0, List.append_nil]⟩
    clear h4 t4 l4 hPz hz0 h3 hb hsz
    go_wp2_with fail
    go_ret
    exact ⟨z, T4, sub4, rfl, hzN, fin.out.1, Or.inr fin.out.2⟩
end

end Go.Proofs.YtpelpcplagfdiaaDoor
