/- 'toward'; 'Join', walked. -/
import Derived.Test.YtpelpcplagfdiaaDoorApi1
import Derived.Test.YtpelpcplagfdiaaDoorDescend
namespace Go.Proofs.YtpelpcplagfdiaaDoor
open Go.RowKit
set_option linter.unusedVariables false

/-- The closure that leads to one end: its box. -/
def Box (w : World) (b : Nat) (s : Bool) : Prop := w.heap[b]? = some (.cells #[.int .i64 (sI s)] 66 (0, 0))

theorem Box.of {w w' : World} {b : Nat} {s : Bool} {fb nb n N : Nat} {T : Tb} (h : Box w b s) (hf : Fo w fb nb n N T) (ht : Turned (fun k => k = nb) w w') : Box w' b s :=
  Keep.ofNodes hf ht b _ _ _ h (by decide) (by decide)

set_option maxRecDepth 100000 in
set_option maxHeartbeats 1000000 in
theorem toward_ok (s : Bool) (w : World) : Calls Tryd.prog 23 #[.int .i64 (sI s)] w fun e w' => e = .returned (.func (.func 47) #[] #[.pointer (some ⟨w.heap.size, 0, none⟩)]) ∧ w' = w.alloc (.cells #[.int .i64 (sI s)] 66) := by
  generalize sI s = c
  go_enter Tryd.func23, Tryd.ntmps23
  go_wp2_with fail
  go_ret
  exact ⟨rfl, rfl⟩

set_option maxRecDepth 100000 in
set_option maxHeartbeats 1000000 in
theorem toward1_ok (s : Bool) (x b : Nat) (w : World) (h : Box w b s) : Calls Tryd.prog 47 #[.int .i32 (x : Int), .pointer (some ⟨b, 0, none⟩)] w fun e w' => e = .returned (.int .i64 (sI s)) ∧ w = w' := by
  have hc : w.cell? ⟨b, 0, none⟩ = some (.int .i64 (sI s)) := by unfold World.cell?; rw [h]; simp
  clear h
  generalize sI s = c at hc ⊢
  go_enter Tryd.func47, Tryd.ntmps47
  go_wp2_with fail
  go_ret
  exact ⟨rfl, rfl⟩

theorem Inv.up_ne {T : Tb} {v : Nat → Int} {sub seq : Nat → List Nat} (h : Inv T v sub seq) {x : Nat} (hx : x ≠ 0) : (T x).up ≠ x := fun e => by
  have := h.up_lt hx (by rw [e]; exact hx)
  rw [e] at this
  omega

theorem Stl.self {x : Nat} {T T' : Tb} {sub sub' : Nat → List Nat} {v : Nat → Int} {seq : Nat → List Nat} (s : Stl x T sub T' sub') (h : Inv T v sub seq) (hx : x ≠ 0) : sub' x = sub x := s.s x (fun _ => h.up_ne hx)

/-- A node that is settled, its list. -/
theorem Inv.flat {T : Tb} {v : Nat → Int} {sub seq : Nat → List Nat} (h : Inv T v sub seq) {x : Nat} (hx : x ≠ 0) (ht : (T x).t = false) : sub x = sub ((T x).k false) ++ x :: sub ((T x).k true) := by
  have := h.eqn x hx false
  rw [ht] at this
  exact this

theorem last_only {A C D : List Nat} {p : Nat} (h : A ++ [p] = C ++ p :: D) (hn : (C ++ p :: D).Nodup) : D = [] := by
  rcases List.eq_nil_or_concat D with h0 | ⟨D', d, rfl⟩
  · exact h0
  · have e : A ++ [p] = (C ++ p :: D') ++ [d] := by rw [h]; simp
    have e2 := (List.append_inj' e rfl).2
    have e3 : p = d := by injection e2
    rw [List.nodup_append, List.nodup_cons] at hn
    exact absurd (by rw [e3]; simp) hn.2.1.1

/-- The last one of a sequence is found, and brought to the top. -/
theorem HS.last {lo fb n nb N : Nat} {w w0 wr : World} {T : Tb} {v : Nat → Int} {sub seq : Nat → List Nat} (h : HS lo w w0 fb n nb N T v sub seq wr) (x b : Nat) (hx0 : x ≠ 0) (hx : x < N) (hu : (T x).up = 0) (hb : Box wr b true) :
    Calls Tryd.prog 22 #[.pointer (some ⟨fb, 0, none⟩), .int .i32 (x : Int), .func (.func 47) #[] #[.pointer (some ⟨b, 0, none⟩)]] wr fun e w' => ∃ (p : Nat) (T' : Tb) (sub' : Nat → List Nat), e = .returned (.int .i32 (p : Int)) ∧ p ≠ 0 ∧ p < N ∧ HS lo w w0 fb n nb N T' v sub' seq w' ∧ (T' p).up = 0 ∧ (T' p).t = false ∧ (T' p).r = 0 ∧ seq p = seq x := by
  have hr := h.gd.inv.root x hx0 hu
  refine (seek_to (.pointer (some ⟨b, 0, none⟩)) fb nb n N v seq lo w w0 (fun T sub y _ => ∃ A, seq x = A ++ [y]) x wr
    (descend_to (.pointer (some ⟨b, 0, none⟩)) fb nb n N v seq lo w w0 (fun T sub y wy => Box wy b true ∧ ∃ A, seq x = A ++ sub y) _ ?_ ?_ x T sub wr h hx0 hx ⟨hb, [], by rw [hr]; rfl⟩)).mono ?_
  · rintro T1 sub1 T2 sub2 y y1 y2 h1 ⟨b1, A, hA⟩ hy m s t h2
    exact ⟨b1.of h1.fo t, A, by rw [s.self h1.gd.inv hy]; exact hA⟩
  · rintro T1 sub1 y y1 h1 ⟨b1, A, hA⟩ hy hyN ht
    refine (toward1_ok true y b y1 b1).mono ?_
    rintro e y2 ⟨rfl, rfl⟩
    have e := h1.gd.inv.flat hy ht
    refine ⟨_, rfl, h1, Or.inr ⟨true, rfl, fun h0 => ⟨A ++ sub1 ((T1 y).k false), ?_⟩, fun h0 => ⟨b1, A ++ sub1 ((T1 y).k false) ++ [y], ?_⟩⟩⟩
    · rw [hA, e, h0, h1.gd.inv.sub0, List.append_assoc]
    · rw [hA, e]; simp
  · rintro e w' ⟨p, T', sub', rfl, hp0, hp, h', u', t', _, _, _, A, hA⟩
    have hm : p ∈ seq x := by rw [hA]; simp
    have es := (h'.gd.mem_seq hx0 hm).1
    refine ⟨p, T', sub', rfl, hp0, hp, h', u', t', ?_, es⟩
    have hf := h'.gd.inv.flat hp0 t'
    have hr' := h'.gd.inv.root p hp0 u'
    have hn := h'.gd.inv.nd p
    rw [← hr', es, hA] at hf
    by_cases h0 : (T' p).r = 0
    · exact h0
    · have hrm : (T' p).r ∈ sub' ((T' p).k true) := h'.gd.inv.self h0
      rw [h'.gd.inv.flat hp0 t'] at hn
      rw [last_only hf hn] at hrm
      cases hrm

section
variable {lo fb n : Nat} {w w0 : World} {v : Nat → Int} {seq : Nat → List Nat}

set_option maxRecDepth 100000 in
set_option maxHeartbeats 2000000 in
theorem FS.join (h : FS lo w fb n v seq w0) (x y : Nat) (hx : x < n) (hy : y < n) (hne : seq (x + 1) ≠ seq (y + 1)) :
    Calls Tryd.prog 8 #[.pointer (some ⟨fb, 0, none⟩), .int .i64 (x : Int), .int .i64 (y : Int)] w0 fun e w' => e = .returned .nilIface ∧ FS lo w fb n v (joinS seq (x + 1) (y + 1)) w' ∧ Keep w0 w' := by
  have hs := hid (h.sameH x y hx hy)
  rw [decide_eq_false hne] at hs
  have hneh := hid hne
  clear h hne
  go_enter Tryd.func8, Tryd.ntmps8
  go_wp2_with fail
  refine hs.out.mono ?_
  rintro e w1 ⟨rfl, nb, N, T, sub, h1, hxN, hyN⟩
  have h1 := hid h1
  clear hs
  go_wp2_with fail
  refine (h1.out.top x hxN).mono ?_
  rintro e w2 ⟨rfl, T2, sub2, h2, m2, u2, t2⟩
  have h2 := hid h2
  have u2 := hid u2
  obtain ⟨X, hX⟩ : ∃ X, x + 1 = X := ⟨_, rfl⟩
  obtain ⟨Y, hY⟩ : ∃ Y, y + 1 = Y := ⟨_, rfl⟩
  have hXY := hid (And.intro hX hY)
  have hty : Hid (∀ T' sub' wy, HS lo w w0 fb n nb N T' v sub' seq wy → Calls Tryd.prog 20 #[.pointer (some ⟨fb, 0, none⟩), .int .i64 (y : Int)] wy fun e w' => e = .returned (.int .i32 ((y + 1 : Nat) : Int)) ∧ ∃ T'' sub'', HS lo w w0 fb n nb N T'' v sub'' seq w' ∧ Mv N v seq (y + 1) T' sub' T'' sub'' ∧ (T'' (y + 1)).up = 0 ∧ (T'' (y + 1)).t = false) := fun T' sub' wy hh => hh.top y hyN
  rw [hX] at hxN u2 hneh
  rw [hY] at hyN hty hneh
  rw [hX]
  have hX0 : X ≠ 0 := by omega
  have hY0 : Y ≠ 0 := by omega
  clear h1 m2 t2 hX hY
  have htw := toward_ok true w2
  rw [show sI true = 1 from rfl] at htw
  have htw := hid htw
  go_wp2_with fail
  refine htw.out.mono ?_
  rintro e w3 ⟨rfl, hw3⟩
  have h3 : Hid (HS lo w w0 fb n nb N T2 v sub2 seq w3) := by rw [hw3]; exact h2.out.alloc _
  have hb : Hid (Box w3 w2.heap.size true) := by rw [hw3]; exact heap_alloc_new w2 _
  generalize w2.heap.size = bb at hb ⊢
  clear hw3 h2 htw
  go_wp2_with fail
  refine (h3.out.last X bb hX0 hxN u2.out hb.out).mono ?_
  rintro e w4 ⟨p, T4, sub4, rfl, hp0, hpN, h4, u4, t4, r4, es⟩
  have h4 := hid h4
  have f4 := hid (And.intro u4 (And.intro t4 (And.intro r4 es)))
  have hp0 := hid hp0
  clear h3 hb u4 t4 r4 es u2
  go_wp2_with fail
  refine (hty.out T4 sub4 _ h4.out).mono ?_
  rintro e w5 ⟨rfl, T5, sub5, h5, m5, u5, t5⟩
  have hpy : seq p ≠ seq Y := by rw [f4.out.2.2.2]; exact hneh.out
  have ep := (m5.fr p (fun _ => hpy)).1
  have npy : Y ≠ p := fun e => hpy (by rw [e])
  have h5 := hid h5
  obtain ⟨sub6, g6⟩ := h5.out.gd.join hp0.out hY0 (by rw [ep]; exact f4.out.1) u5 (by rw [ep]; exact f4.out.2.1) (by rw [ep]; exact f4.out.2.2.1) hpy hpN hyN
  have g6 := hid g6
  have ej : Hid (joinS seq p Y = joinS seq X Y) := hid (by unfold joinS; rw [f4.out.2.2.2])
  have hh := hang_ok fb nb n N p Y true T5 w5 h5.out.fo hpN hyN npy (h5.out.gd.k_lt p _) (h5.out.gd.inv.kid_ne hp0.out _)
  rw [show sI true = 1 from rfl] at hh
  have hh := hid hh
  clear m5 u5 t5 ep hpy npy hty
  go_wp2_with fail
  refine hh.out.mono ?_
  rintro e w6 ⟨rfl, f6, t6⟩
  have h6 := hid (h5.out.turn f6 g6.out t6)
  clear f6 t6 hh
  go_wp2_with fail
  go_ret
  exact ⟨rfl, by rw [hXY.out.1, hXY.out.2, ← ej.out]; exact h6.out.end_, h6.out.keep⟩

set_option maxRecDepth 100000 in
set_option maxHeartbeats 1000000 in
theorem FS.join_same (h : FS lo w fb n v seq w0) (x y : Nat) (hx : x < n) (hy : y < n) (hne : seq (x + 1) = seq (y + 1)) :
    Calls Tryd.prog 8 #[.pointer (some ⟨fb, 0, none⟩), .int .i64 (x : Int), .int .i64 (y : Int)] w0 fun e w' => e = .returned (.iface 50 (.int .i64 20)) ∧ FS lo w fb n v seq w' ∧ Keep w0 w' := by
  have hs := hid (h.same x y hx hy)
  rw [decide_eq_true hne] at hs
  clear h hne
  go_enter Tryd.func8, Tryd.ntmps8
  go_wp2_with fail
  refine hs.out.mono ?_
  rintro e w1 ⟨rfl, h1, k1⟩
  have h1 := hid h1
  have k1 := hid k1
  clear hs
  go_wp2_with fail
  go_ret
  exact ⟨rfl, h1.out, k1.out⟩

set_option maxRecDepth 100000 in
set_option maxHeartbeats 1000000 in
theorem FS.join_bad (h : FS lo w fb n v seq w0) (x y : Int) (hx : ¬ ((0 ≤ x ∧ x < (n : Int)) ∧ (0 ≤ y ∧ y < (n : Int)))) :
    Calls Tryd.prog 8 #[.pointer (some ⟨fb, 0, none⟩), .int .i64 x, .int .i64 y] w0 fun e w' => e = .returned (.iface 50 (.int .i64 12)) ∧ FS lo w fb n v seq w' ∧ Keep w0 w' := by
  have hs := hid (h.same_bad x y hx)
  clear h hx
  go_enter Tryd.func8, Tryd.ntmps8
  go_wp2_with fail
  refine hs.out.mono ?_
  rintro e w1 ⟨rfl, h1, k1⟩
  have h1 := hid h1
  have k1 := hid k1
  clear hs
  go_wp2_with fail
  go_ret
  exact ⟨rfl, h1.out, k1.out⟩
end

set_option maxRecDepth 100000 in
set_option maxHeartbeats 1000000 in
theorem join_nil (x y : Int) (w0 : World) :
    Calls Tryd.prog 8 #[.pointer none, .int .i64 x, .int .i64 y] w0 fun e w' => e = .returned (.iface 50 (.int .i64 1)) ∧ Below w0.heap.size w0 w' := by
  go_enter Tryd.func8, Tryd.ntmps8
  go_wp2_with fail
  refine (same_nil x y _).mono ?_
  rintro e w1 ⟨rfl, b1⟩
  go_wp2_with fail
  go_ret
  exact ⟨rfl, b1⟩

end Go.Proofs.YtpelpcplagfdiaaDoor
