/- 'SpanMany', walked. -/
import Derived.Test.YtnlbpjppkfenkaaRef9
import Derived.Test.YtnlbpjppkfenkaaMore9
namespace Go.Proofs.Ytnlbpjppkfenkaa
open Go.RowKit
set_option linter.unusedVariables false

theorem rjoin_any (u : Value) (n a b : Nat) (f : Nat → Nat) (w : World) (h : Ls w u n f) (ha : a < n) (hb : b < n) (hn : n ≤ 1000) (hf : ∀ x, f x ≤ x) :
    Calls Try.prog 10 #[u, .int .i64 (a : Int), .int .i64 (b : Int)] w fun e w' => ∃ u' t, e = .returned (.tuple #[u', .bool t]) ∧ t = (!decide (f a = f b)) ∧ Ls w' u' n (jn f a b) ∧ Below w.heap.size w w' := by
  by_cases he : f a = f b
  · refine (rjoin_same u n a b f w h ha hb hn he).mono ?_
    rintro e w' ⟨rfl, b1⟩
    exact ⟨u, false, rfl, by rw [decide_eq_true he]; rfl, by rw [jn_same he]; exact h.below b1, b1⟩
  · refine (rjoin_new u n a b f w h ha hb hn he (fun x _ => hf x)).mono ?_
    rintro e w' ⟨u', rfl, h1, b1⟩
    exact ⟨u', true, rfl, by rw [decide_eq_false he]; rfl, h1, b1⟩

theorem bstep {w a b : World} (h : Hid (Below w.heap.size w a)) (k : Below a.heap.size a b) : Hid (Below w.heap.size w b) := h.out.trans (k.mono h.out.size)

/-- Where the law's loop stands. -/
structure MS (w : World) (n : Nat) (A B : Nat → Nat) (p q : Nat → Bool) (j J X Y : Nat) (u : Value) (wr : World) : Prop where
  jo : J = (kr A B (fun x => x) (List.range j)).length
  x : X = cnt p j
  y : Y = cnt q j
  ls : Ls wr u n (jl A B (fun x => x) (List.range j))
  bel : Below w.heap.size w wr

theorem MS.step {w : World} {n : Nat} {A B : Nat → Nat} {p q : Nat → Bool} {j J X Y : Nat} {u u' : Value} {wr w' : World} (h : MS w n A B p q j J X Y u wr) (hl : Ls w' u' n (jn (jl A B (fun x => x) (List.range j)) (A j) (B j))) (hb : Below w.heap.size w w') {t : Bool} (ht : t = !decide (jl A B (fun x => x) (List.range j) (A j) = jl A B (fun x => x) (List.range j) (B j))) {x y : Bool} (hx : p j = x) (hy : q j = y) :
    MS w n A B p q (j + 1) (J + if t then 1 else 0) (X + if x then 1 else 0) (Y + if y then 1 else 0) u' w' := by
  refine ⟨?_, by rw [h.x, ← hx]; rfl, by rw [h.y, ← hy]; rfl, by rw [jl_range]; exact hl, hb⟩
  rw [h.jo, ht]
  by_cases e : jl A B (fun x => x) (List.range j) (A j) = jl A B (fun x => x) (List.range j) (B j)
  · rw [kr_range_same e, decide_eq_true e]; rfl
  · rw [kr_range_new e, decide_eq_false e]; simp

theorem MS.more {w : World} {n : Nat} {A B : Nat → Nat} {p q : Nat → Bool} {j J X Y : Nat} {u : Value} {wr w' : World} (h : MS w n A B p q j J X Y u wr) (hb : Below wr.heap.size wr w') : MS w n A B p q j J X Y u w' :=
  ⟨h.jo, h.x, h.y, h.ls.below hb, h.bel.trans (hb.mono h.bel.size)⟩

set_option maxRecDepth 100000 in
set_option maxHeartbeats 8000000 in
theorem many_law (n : Int) (v : Value) (l : List Ed) (w : World) (hv : EV w v l) (hw : Wr l) : Calls Try.prog 4 #[.int .i64 n, v] w fun e w' => e = .returned (.bool true) ∧ Below w.heap.size w w' := by
  have hsure : Hid (∀ y, Calls Try.prog 6 #[] y fun e w' => e = .returned (.bool true) ∧ Below y.heap.size y w') := fun y => sure_ok y
  by_cases h1 : n < 1
  · obtain ⟨ad, m, cap, rfl, he, _, _⟩ := hv
    have d1 : decide (n < 1) = true := decide_eq_true h1
    clear h1 he hw
    go_enter Try.func4, Try.ntmps4
    go_wp2_with fail
    refine (hsure.out _).mono ?_
    rintro e w1 ⟨rfl, b1⟩
    replace b1 := hid b1
    go_wp2_with fail
    go_ret
    exact ⟨rfl, b1.out⟩
  have d1 : decide (n < 1) = false := decide_eq_false h1
  by_cases h2 : 60 < n
  · obtain ⟨ad, m, cap, rfl, he, _, _⟩ := hv
    have d2 : decide (60 < n) = true := decide_eq_true h2
    clear h1 h2 he hw
    go_enter Try.func4, Try.ntmps4
    go_wp2_with fail
    refine (hsure.out _).mono ?_
    rintro e w1 ⟨rfl, b1⟩
    replace b1 := hid b1
    go_wp2_with fail
    go_ret
    exact ⟨rfl, b1.out⟩
  have d2 : decide (60 < n) = false := decide_eq_false h2
  by_cases h3 : 60 < l.length
  · obtain ⟨ad, m, cap, rfl, he, _, _⟩ := hv
    have hm := he.len
    have d3 : decide (60 < (m : Int)) = true := decide_eq_true (by omega)
    clear h1 h2 h3 he hw hm
    go_enter Try.func4, Try.ntmps4
    go_wp2_with fail
    refine (hsure.out _).mono ?_
    rintro e w1 ⟨rfl, b1⟩
    replace b1 := hid b1
    go_wp2_with fail
    go_ret
    exact ⟨rfl, b1.out⟩
  by_cases hok : Okr n l
  rotate_left
  · have hc := hid (rcheck_range n v l w hv (by omega) (by omega) (by omega) hok)
    obtain ⟨ad, m, cap, rfl, he, _, _⟩ := hv
    have hm := he.len
    have d3 : decide (60 < (m : Int)) = false := decide_eq_false (by omega)
    clear h1 h2 h3 he hw hm hok
    go_enter Try.func4, Try.ntmps4
    go_wp2_with fail
    refine hc.out.mono ?_
    rintro e w1 ⟨rfl, rfl⟩
    go_wp2_with fail
    refine (hsure.out _).mono ?_
    rintro e w1 ⟨rfl, b1⟩
    replace b1 := hid b1
    go_wp2_with fail
    go_ret
    exact ⟨rfl, b1.out⟩
  obtain ⟨N, rfl⟩ : ∃ N : Nat, n = (N : Int) := ⟨n.toNat, by omega⟩
  have hN1 : 1 ≤ N := by omega
  have hN2 : N ≤ 60 := by omega
  have hL : l.length ≤ 60 := by omega
  have hc := hid (rcheck_ok (N : Int) v l w hv (by omega) (by omega) (by omega) hok)
  have hgive : Hid (∀ y, Below w.heap.size w y → Calls Try.prog 8 #[v] y fun e w' => ∃ u, e = .returned u ∧ Re 45 y.heap.size w' u l ∧ Below y.heap.size y w') := fun y hy => give_ok v l y (hv.below hy) (by omega)
  have htree : Hid (∀ y u, EV y u l → Calls Try.prog 7 #[.int .i64 (N : Int), u] y fun e w' => Tr (Lw (eW l)) l y e w') := fun y u hu => tree_ok N u l y hu (by omega) (by omega) hok hw
  have hmost : Hid (∀ y u, EV y u l → Calls Try.prog 14 #[.int .i64 (N : Int), u] y fun e w' => Tr (Gt (eW l)) l y e w') := fun y u hu => most_ok N u l y hu (by omega) (by omega) hok hw
  have hnat : Hid (∀ i, i < l.length → l[i]? = some ⟨(eA l i : Int), (eB l i : Int), eW l i⟩ ∧ eA l i < N ∧ eB l i < N) := fun i hi => by
    obtain ⟨q1, q2, q3⟩ := hok.nat hi
    exact ⟨q1, by omega, by omega⟩
  have hAB : Hid (∀ i, i < l.length → eA l i < N ∧ eB l i < N) := fun i hi => (hnat.out i hi).2
  obtain ⟨ad, m, cap, rfl, he, _, _⟩ := hv
  have hm := he.len
  have d3 : decide (60 < (m : Int)) = false := decide_eq_false (by omega)
  rw [hm] at hnat hL hAB
  replace he := hid he
  replace hm := hid hm
  clear h1 h2 h3 hw hok
  go_enter Try.func4, Try.ntmps4
  go_wp2_with fail
  refine hc.out.mono ?_
  rintro e w1 ⟨rfl, rfl⟩
  clear hc
  go_wp2_with fail
  refine (hgive.out _ (Below.refl _ _)).mono ?_
  rintro e w1 ⟨u1, rfl, r1, b1⟩
  replace r1 := hid r1.ev
  replace b1 := hid b1
  go_wp2_with fail
  refine (htree.out _ _ r1.out).mono ?_
  rintro e w2 ⟨av, so, rfl, so1, m2, b2⟩
  rw [hm.out] at so1 m2
  replace b2 := bstep b1 b2
  replace so1 := hid so1
  replace m2 := hid m2.bv
  clear b1 r1 htree
  obtain ⟨s, hs⟩ : ∃ s, wsum (eW l) (kr (eA l) (eB l) (fun x => x) so) = s := ⟨_, rfl⟩
  rw [hs]
  replace hs := hid hs
  obtain ⟨aa, ac, rfl, ma, mb, mc⟩ := m2.out
  replace mc := hid mc
  clear m2
  go_wp2_with fail
  refine (hgive.out _ b2.out).mono ?_
  rintro e w3 ⟨u3, rfl, r3, b3⟩
  replace r3 := hid r3.ev
  have mc3 : Hid (∀ j, j < m → ∃ b o, aa = some ⟨b, o, none⟩ ∧ w3.cell? ⟨b, o + j, none⟩ = some (.bool (decide (j ∈ kr (eA l) (eB l) (fun x => x) so)))) := fun j hj => by
    obtain ⟨b, o, e1, e2⟩ := mc.out j hj
    exact ⟨b, o, e1, (b3.cell (World.block_lt_of_cell? _ _ e2)).trans e2⟩
  replace b3 := bstep b2 b3
  clear b2 mc hgive
  go_wp2_with fail
  refine (hmost.out _ _ r3.out).mono ?_
  rintro e w4 ⟨bv, sp, rfl, so2, m4, b4⟩
  rw [hm.out] at so2 m4
  have mc4 : Hid (∀ j, j < m → ∃ b o, aa = some ⟨b, o, none⟩ ∧ w4.cell? ⟨b, o + j, none⟩ = some (.bool (decide (j ∈ kr (eA l) (eB l) (fun x => x) so)))) := fun j hj => by
    obtain ⟨b, o, e1, e2⟩ := mc3.out j hj
    exact ⟨b, o, e1, (b4.cell (World.block_lt_of_cell? _ _ e2)).trans e2⟩
  replace b4 := bstep b3 b4
  replace so2 := hid so2
  replace m4 := hid m4.bv
  clear b3 r3 hmost mc3
  obtain ⟨t, ht⟩ : ∃ t, wsum (eW l) (kr (eA l) (eB l) (fun x => x) sp) = t := ⟨_, rfl⟩
  rw [ht]
  replace ht := hid ht
  obtain ⟨ba, bc, rfl, na, nb, nc⟩ := m4.out
  replace nc := hid nc
  clear m4
  have hst : decide (s ≤ t) = true := decide_eq_true (by
    rw [← hs.out, ← ht.out]
    exact So.least (Lw.lin _ _) so1.out (fun i j h => h.le) so2.out.mem hAB.out)
  obtain ⟨p, hp⟩ : ∃ p : Nat → Bool, p = fun i => decide (i ∈ kr (eA l) (eB l) (fun x => x) so) := ⟨_, rfl⟩
  obtain ⟨q, hq⟩ : ∃ q : Nat → Bool, q = fun i => decide (i ∈ kr (eA l) (eB l) (fun x => x) sp) := ⟨_, rfl⟩
  have mcp : Hid (∀ j, j < m → ∃ b o, aa = some ⟨b, o, none⟩ ∧ w4.cell? ⟨b, o + j, none⟩ = some (.bool (p j))) := by rw [hp]; exact mc4
  have ncq : Hid (∀ j, j < m → ∃ b o, ba = some ⟨b, o, none⟩ ∧ w4.cell? ⟨b, o + j, none⟩ = some (.bool (q j))) := by rw [hq]; exact nc
  have hloop : Hid (∀ j, eA l j = eB l j → p j = false ∧ q j = false) := fun j hj => by
    rw [hp, hq]
    exact ⟨decide_eq_false (So.loop (Lw.lin _ _) so1.out hj), decide_eq_false (So.loop (Gt.lin _ _) so2.out hj)⟩
  have hfin : Hid (cnt p m = (kr (eA l) (eB l) (fun x => x) (List.range m)).length ∧ cnt q m = (kr (eA l) (eB l) (fun x => x) (List.range m)).length) := by
    rw [hp, hq]
    exact ⟨So.joins (Lw.lin _ _) so1.out hAB.out, So.joins (Gt.lin _ _) so2.out hAB.out⟩
  clear hp hq mc4 nc hs ht so1 so2
  go_wp2_with fail
  refine (rnew_ok N w4 hN1 (by omega)).mono ?_
  rintro e w5 ⟨u5, rfl, l5, b5⟩
  have ms0 : Hid (MS w N (eA l) (eB l) p q 0 0 0 0 u5 w5) := ⟨by simp [kr], rfl, rfl, l5, (bstep b4 b5).out⟩
  have hcell : Hid (∀ y, Below w4.heap.size w4 y → ∀ j, j < m → (∃ b o, aa = some ⟨b, o, none⟩ ∧ y.cell? ⟨b, o + j, none⟩ = some (.bool (p j))) ∧ (∃ b o, ba = some ⟨b, o, none⟩ ∧ y.cell? ⟨b, o + j, none⟩ = some (.bool (q j)))) := fun y hy j hj => by
    obtain ⟨b, o, e1, e2⟩ := mcp.out j hj
    obtain ⟨b', o', e3, e4⟩ := ncq.out j hj
    exact ⟨⟨b, o, e1, (hy.cell (World.block_lt_of_cell? _ _ e2)).trans e2⟩, ⟨b', o', e3, (hy.cell (World.block_lt_of_cell? _ _ e4)).trans e4⟩⟩
  have b45 := hid b5
  clear l5 b5 mcp ncq b4
  go_wp2_with fail
  go_loopw [11, 12, 13, 14, 15, 16, 17] (fun s11 s12 s13 s14 s15 _ _ wr => ∃ j J X Y : Nat, j ≤ m ∧ J ≤ j ∧ X ≤ j ∧ Y ≤ j ∧ s15 = .int .i64 (j : Int) ∧ s12 = .int .i64 (J : Int) ∧ s13 = .int .i64 (X : Int) ∧ s14 = .int .i64 (Y : Int) ∧ Hid (MS w N (eA l) (eB l) p q j J X Y s11 wr ∧ Below w4.heap.size w4 wr))
    (fun _ _ _ _ s15 _ _ _ => m - (intOf s15).toNat)
  case atStart => exact ⟨0, 0, 0, 0, by omega, by omega, by omega, by omega, by go_num, by go_num, by go_num, by go_num, ms0.out, b45.out⟩
  case round =>
    obtain ⟨j, J, X, Y, hj, hJ, hX, hY, rfl, rfl, rfl, rfl, hms⟩ := hrel
    clear ms0 b45
    rcases Nat.lt_or_ge j m with hlt | hge
    · obtain ⟨hli, hAi, hBi⟩ := hnat.out j hlt
      obtain ⟨g, o, rfl, c0, c1, _⟩ := (he.out.below hms.out.1.bel).cell j _ hli
      simp only [] at c0 c1
      have hjoin := hid (fun y (hy : Below wr.heap.size wr y) => rjoin_any u11 N (eA l j) (eB l j) _ y (hms.out.1.ls.below hy) hAi hBi (by omega) (fun x => jl_le (A := eA l) (B := eB l) (List.range j) x))
      have hlp := hid (hloop.out j)
      have hstep := hid (fun u' w' t x y hl hb ht hx hy => hms.out.1.step (u' := u') (w' := w') (t := t) (x := x) (y := y) hl hb ht hx hy)
      have hbw := hid hms.out.1.bel
      have hb4 := hid hms.out.2
      clear hli hAi hBi hms
      generalize eA l j = a at c0 hjoin hlp hstep
      generalize eB l j = b at c1 hjoin hlp hstep
      have i1 : (0 : Int) ≤ (j : Int) := by omega
      have i2 : (j : Int) < (m : Int) := by omega
      go_wp2_with fail
      go_region_held3 (fun y => y.cell? ⟨g, o + j * 3, none⟩ = some (.int .i64 (a : Int)) ∧ y.cell? ⟨g, o + j * 3 + 1, none⟩ = some (.int .i64 (b : Int))) (first | exact ⟨c0', c1'⟩ | go_keep) ((go_at_call 10; refine (hjoin.out _ (Below.refl _ _).drew).mono ?_; rintro e w6 ⟨u6, t6, rfl, ht6, l6, b6⟩; replace ht6 := hid ht6; have b6' : Below wr.heap.size wr w6 := ((Below.refl _ _).drew).trans b6; have c0' := (b6'.cell (World.block_lt_of_cell? _ _ c0)).trans c0; have c1' := (b6'.cell (World.block_lt_of_cell? _ _ c1)).trans c1))
      have hb6 : Hid (Below w.heap.size w w6) := bstep hbw b6'
      have hb46 : Hid (Below w4.heap.size w4 w6) := hb4.out.trans (b6'.mono hb4.out.size)
      obtain ⟨⟨g1, o1, rfl, cp⟩, ⟨g2, o2, rfl, cq⟩⟩ := hcell.out w6 hb46.out j hlt
      obtain ⟨x, hx⟩ : ∃ x, p j = x := ⟨_, rfl⟩
      obtain ⟨y, hy⟩ : ∃ y, q j = y := ⟨_, rfl⟩
      rw [hx] at cp
      rw [hy] at cq
      have hnext := hid (And.intro (hstep.out u6 w6 t6 x y l6 hb6.out ht6.out hx hy) hb46.out)
      have hlp2 : Hid (a = b → x = false ∧ y = false) := by rw [← hx, ← hy]; exact hlp
      clear hlp hx hy l6 b6 b6' hb6 hb46 hstep hjoin ht6 hbw hb4
      by_cases hab : a = b
      · obtain ⟨rfl, rfl⟩ := hlp2.out hab
        subst hab
        clear hlp2
        have t1 : ((a : Int) == (a : Int)) = true := by simp
        cases t6 with
        | false =>
          go_wp2_with fail
          go_quiet (fail)
          go_wp2_with fail
          go_roundw
          case rel => exact ⟨j + 1, J, X, Y, by omega, by omega, by omega, by omega, by go_num, by first | rfl | go_num, by first | rfl | go_num, by first | rfl | go_num, (hnext.out.1).more (belowN (Below.refl _ _) _), belowN hnext.out.2 _⟩
          case measure => simp [intOf]; omega
        | true =>
          go_wp2_with fail
          go_quiet (fail)
          go_wp2_with fail
          go_roundw
          case rel => exact ⟨j + 1, J + 1, X, Y, by omega, by omega, by omega, by omega, by go_num, by first | rfl | go_num, by first | rfl | go_num, by first | rfl | go_num, (hnext.out.1).more (belowN (Below.refl _ _) _), belowN hnext.out.2 _⟩
          case measure => simp [intOf]; omega
      · have t1 : ((a : Int) == (b : Int)) = false := by simp; omega
        have t2 : ¬ ((a : Int) = (b : Int)) := by omega
        clear hlp2 hab
        cases t6 with
        | false =>
          cases x with
          | false =>
            cases y with
            | false =>
              go_wp2_with fail
              go_quiet (fail)
              go_wp2_with fail
              go_roundw
              case rel => exact ⟨j + 1, J, X, Y, by omega, by omega, by omega, by omega, by go_num, by first | rfl | go_num, by first | rfl | go_num, by first | rfl | go_num, (hnext.out.1).more (belowN (Below.refl _ _) _), belowN hnext.out.2 _⟩
              case measure => simp [intOf]; omega
            | true =>
              go_wp2_with fail
              go_quiet (fail)
              go_wp2_with fail
              go_roundw
              case rel => exact ⟨j + 1, J, X, Y + 1, by omega, by omega, by omega, by omega, by go_num, by first | rfl | go_num, by first | rfl | go_num, by first | rfl | go_num, (hnext.out.1).more (belowN (Below.refl _ _) _), belowN hnext.out.2 _⟩
              case measure => simp [intOf]; omega
          | true =>
            cases y with
            | false =>
              go_wp2_with fail
              go_quiet (fail)
              go_wp2_with fail
              go_roundw
              case rel => exact ⟨j + 1, J, X + 1, Y, by omega, by omega, by omega, by omega, by go_num, by first | rfl | go_num, by first | rfl | go_num, by first | rfl | go_num, (hnext.out.1).more (belowN (Below.refl _ _) _), belowN hnext.out.2 _⟩
              case measure => simp [intOf]; omega
            | true =>
              go_wp2_with fail
              go_quiet (fail)
              go_wp2_with fail
              go_roundw
              case rel => exact ⟨j + 1, J, X + 1, Y + 1, by omega, by omega, by omega, by omega, by go_num, by first | rfl | go_num, by first | rfl | go_num, by first | rfl | go_num, (hnext.out.1).more (belowN (Below.refl _ _) _), belowN hnext.out.2 _⟩
              case measure => simp [intOf]; omega
        | true =>
          cases x with
          | false =>
            cases y with
            | false =>
              go_wp2_with fail
              go_quiet (fail)
              go_wp2_with fail
              go_roundw
              case rel => exact ⟨j + 1, J + 1, X, Y, by omega, by omega, by omega, by omega, by go_num, by first | rfl | go_num, by first | rfl | go_num, by first | rfl | go_num, (hnext.out.1).more (belowN (Below.refl _ _) _), belowN hnext.out.2 _⟩
              case measure => simp [intOf]; omega
            | true =>
              go_wp2_with fail
              go_quiet (fail)
              go_wp2_with fail
              go_roundw
              case rel => exact ⟨j + 1, J + 1, X, Y + 1, by omega, by omega, by omega, by omega, by go_num, by first | rfl | go_num, by first | rfl | go_num, by first | rfl | go_num, (hnext.out.1).more (belowN (Below.refl _ _) _), belowN hnext.out.2 _⟩
              case measure => simp [intOf]; omega
          | true =>
            cases y with
            | false =>
              go_wp2_with fail
              go_quiet (fail)
              go_wp2_with fail
              go_roundw
              case rel => exact ⟨j + 1, J + 1, X + 1, Y, by omega, by omega, by omega, by omega, by go_num, by first | rfl | go_num, by first | rfl | go_num, by first | rfl | go_num, (hnext.out.1).more (belowN (Below.refl _ _) _), belowN hnext.out.2 _⟩
              case measure => simp [intOf]; omega
            | true =>
              go_wp2_with fail
              go_quiet (fail)
              go_wp2_with fail
              go_roundw
              case rel => exact ⟨j + 1, J + 1, X + 1, Y + 1, by omega, by omega, by omega, by omega, by go_num, by first | rfl | go_num, by first | rfl | go_num, by first | rfl | go_num, (hnext.out.1).more (belowN (Below.refl _ _) _), belowN hnext.out.2 _⟩
              case measure => simp [intOf]; omega
    · obtain rfl : j = m := by omega
      have e1 : X = J := by rw [hms.out.1.x, hms.out.1.jo]; exact hfin.out.1
      have e2 : Y = J := by rw [hms.out.1.y, hms.out.1.jo]; exact hfin.out.2
      subst e1 e2
      have hbw := hid hms.out.1.bel
      clear hms
      go_wp2_with fail
      refine (hsure.out _).mono ?_
      rintro e w7 ⟨rfl, b7⟩
      replace b7 := bstep hbw b7
      go_wp2_with fail
      go_ret
      exact ⟨rfl, b7.out⟩

end Go.Proofs.Ytnlbpjppkfenkaa
