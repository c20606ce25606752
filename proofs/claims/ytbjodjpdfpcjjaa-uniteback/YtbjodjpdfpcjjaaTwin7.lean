/- 'UniteBack', walked: two Groups side by side. -/
import Derived.Test.YtbjodjpdfpcjjaaSizes7
namespace Go.Proofs.Ytbjodjpdfpcjjaa
open Go.RowKit
set_option linter.unusedVariables false

/-- Two Groups that were made since w, apart from one another. -/
structure G2 (w : World) (ga gb n : Nat) (hs hs' : List (Nat → Nat)) (wr : World) : Prop where
  st : ∃ O O' : Nat → Prop, GA wr ga n hs O ∧ GA wr gb n hs' O' ∧ (∀ k, O k → w.heap.size ≤ k ∧ k < wr.heap.size) ∧ (∀ k, O' k → w.heap.size ≤ k ∧ k < wr.heap.size) ∧ ∀ k, ¬ (O k ∧ O' k)
  below : Below w.heap.size w wr

theorem GA.shrink {w : World} {gb n : Nat} {hs : List (Nat → Nat)} {O : Nat → Prop} (h : GA w gb n hs O) : GA w gb n hs (fun k => O k ∧ k < w.heap.size) := by
  obtain ⟨mv, jv, K, T, js, h1, h2, h3⟩ := h.st
  exact ⟨mv, jv, K, T, js, h1, h2, fun k hk => ⟨h3 k hk, h1.olt hk⟩⟩

section
variable {w wr : World} {ga gb n : Nat} {f g : Nat → Nat} {fs gs hs hs' : List (Nat → Nat)}

theorem G2.more (h : G2 w ga gb n hs hs' wr) {w' : World} (hb : Below wr.heap.size wr w') : G2 w ga gb n hs hs' w' := by
  obtain ⟨O, O', h1, h2, h3, h4, h5⟩ := h.st
  have := hb.size
  exact ⟨⟨O, O', h1.more hb, h2.more hb, fun k hk => ⟨(h3 k hk).1, by have := (h3 k hk).2; omega⟩, fun k hk => ⟨(h4 k hk).1, by have := (h4 k hk).2; omega⟩, h5⟩, h.below.trans (hb.mono h.below.size)⟩

theorem G2.drew (h : G2 w ga gb n hs hs' wr) : G2 w ga gb n hs hs' wr.drew := h.more (Below.refl _ _).drew

theorem G2.swap (h : G2 w ga gb n hs hs' wr) : G2 w gb ga n hs' hs wr := by
  obtain ⟨O, O', h1, h2, h3, h4, h5⟩ := h.st
  exact ⟨⟨O', O, h2, h1, h4, h3, fun k hk => h5 k ⟨hk.2, hk.1⟩⟩, h.below⟩

/-- The first ones turn. -/
theorem G2.turn {O O' O1 : Nat → Prop} {w' : World} {hs1 : List (Nat → Nat)} (hb : Below w.heap.size w wr) (h1 : GA wr gb n hs' O') (h3 : ∀ k, O k → w.heap.size ≤ k ∧ k < wr.heap.size) (h4 : ∀ k, O' k → w.heap.size ≤ k ∧ k < wr.heap.size) (h5 : ∀ k, ¬ (O k ∧ O' k))
    (g1 : GA w' ga n hs1 O1) (g2 : Turned O wr w') (g3 : ∀ k, O1 k → O k ∨ wr.heap.size ≤ k) : G2 w ga gb n hs1 hs' w' := by
  have hs := g2.size
  refine ⟨⟨_, O', g1.shrink, h1.of g2 (fun k _ hk e => h5 k ⟨e, hk⟩), fun k hk => ⟨?_, hk.2⟩, fun k hk => ⟨(h4 k hk).1, by have := (h4 k hk).2; omega⟩, fun k hk => ?_⟩, hb.trans (g2.below (fun k hk => (h3 k hk).1) hb.size)⟩
  · rcases g3 k hk.1 with e | e
    · exact (h3 k e).1
    · exact Nat.le_trans hb.size e
  · rcases g3 k hk.1.1 with e | e
    · exact h5 k ⟨e, hk.2⟩
    · have := (h4 k hk.2).2; omega

theorem G2.join (h : G2 w ga gb n (f :: fs) hs' wr) (a b : Nat) (ha : a < n) (hb : b < n) :
    Calls Try.prog 7 #[.pointer (some ⟨ga, 0, none⟩), .int .i64 (a : Int), .int .i64 (b : Int)] wr fun e w' => ∃ v, e = .returned v ∧ G2 w ga gb n (stepH f fs a b) hs' w' := by
  obtain ⟨O, O', h1, h2, h3, h4, h5⟩ := h.st
  refine (h1.join a b ha hb).mono ?_
  rintro e w' ⟨rfl, O1, g1, g2, g3⟩
  exact ⟨_, rfl, G2.turn h.below h2 h3 h4 h5 g1 g2 g3⟩

theorem G2.back (h : G2 w ga gb n (f :: fs) hs' wr) (k : Nat) (hk : k ≤ fs.length) : Calls Try.prog 9 #[.pointer (some ⟨ga, 0, none⟩), .int .i64 (k : Int)] wr fun e w' => e = .returned .nilIface ∧ G2 w ga gb n ((f :: fs).drop (fs.length - k)) hs' w' := by
  obtain ⟨O, O', h1, h2, h3, h4, h5⟩ := h.st
  refine (h1.back k hk).mono ?_
  rintro e w' ⟨rfl, O1, g1, g2⟩
  exact ⟨rfl, G2.turn h.below h2 h3 h4 h5 g1 g2.tu g2.ne⟩

theorem G2.size (h : G2 w ga gb n (f :: fs) hs' wr) (x : Nat) (hx : x < n) :
    Calls Try.prog 11 #[.pointer (some ⟨ga, 0, none⟩), .int .i64 (x : Int)] wr fun e w' => e = .returned (.tuple #[.int .i64 (cnt (fun y => f y == f x) n : Int), .nilIface]) ∧ G2 w ga gb n (f :: fs) hs' w' := by
  obtain ⟨O, O', h1, _⟩ := h.st
  exact (h1.size x hx).mono fun e w' ⟨e1, b⟩ => ⟨e1, h.more b⟩

theorem G2.least (h : G2 w ga gb n (f :: fs) hs' wr) (x : Nat) (hx : x < n) :
    Calls Try.prog 12 #[.pointer (some ⟨ga, 0, none⟩), .int .i64 (x : Int)] wr fun e w' => e = .returned (.tuple #[.int .i64 (f x : Int), .nilIface]) ∧ G2 w ga gb n (f :: fs) hs' w' := by
  obtain ⟨O, O', h1, _⟩ := h.st
  exact (h1.least x hx).mono fun e w' ⟨e1, b⟩ => ⟨e1, h.more b⟩

theorem G2.count (h : G2 w ga gb n (f :: fs) hs' wr) : Calls Try.prog 10 #[.pointer (some ⟨ga, 0, none⟩)] wr fun e w' => e = .returned (.int .i64 (fix n f : Int)) ∧ fix n f + fs.length = n ∧ G2 w ga gb n (f :: fs) hs' w' := by
  obtain ⟨O, O', h1, _⟩ := h.st
  exact h1.count.mono fun e w' ⟨e1, e2, b⟩ => ⟨e1, e2, h.more b⟩

theorem G2.steps (h : G2 w ga gb n (f :: fs) hs' wr) : Calls Try.prog 8 #[.pointer (some ⟨ga, 0, none⟩)] wr fun e w' => e = .returned (.int .i64 (fs.length : Int)) ∧ wr = w' := by
  obtain ⟨O, O', h1, _⟩ := h.st
  exact h1.steps

theorem G2.second (h : G2 w ga gb n hs hs' wr) {Q : Ending → World → Prop} {F : Nat} {args : Array Value} (k : G2 w gb ga n hs' hs wr → Calls Try.prog F args wr Q) : Calls Try.prog F args wr Q := k h.swap

theorem G2.len (h : G2 w ga gb n (f :: fs) hs' wr) : fs.length ≤ n := by
  obtain ⟨O, O', h1, _⟩ := h.st
  obtain ⟨mv, jv, K, T, js, g1, g2, g3⟩ := h1.st
  obtain ⟨_, _, r, d, e, ok, h4, h5⟩ := g2.ok
  obtain ⟨rfl, rfl⟩ : f = _ ∧ fs = _ := by simpa using e
  omega
end

theorem G2.new {w wr : World} {ga n : Nat} {hs : List (Nat → Nat)} (h : GL w ga n hs wr) (n1 : 1 ≤ n) : Calls Try.prog 6 #[.int .i64 (n : Int)] wr fun e w' => ∃ gb, e = .returned (.tuple #[.pointer (some ⟨gb, 0, none⟩), .nilIface]) ∧ G2 w ga gb n hs [fun x => x] w' := by
  obtain ⟨O, h1, h2⟩ := h.st
  refine (new_ok n wr n1 h.big).mono ?_
  rintro e w' ⟨rfl, g, b⟩
  refine ⟨_, rfl, ⟨fun k => O k ∧ k < wr.heap.size, _, h1.shrink.more b, g.shrink, fun k hk => ⟨h2 k hk.1, by have := b.size; omega⟩, fun k hk => ⟨?_, hk.2⟩, fun k hk => ?_⟩, h.below.trans (b.mono h.below.size)⟩
  · have e : k = wr.heap.size := hk.1
    rw [e]; exact h.below.size
  · have e : k = wr.heap.size := hk.2.1
    have := hk.1.2; omega

/-- The one's history goes on from the other one's, which has at most so many steps. -/
def Front (k : Nat) (hs hs' : List (Nat → Nat)) : Prop := ∃ pre, hs = pre ++ hs' ∧ (hs'.length - 1 < k → pre = [])

theorem Front.both {k a b : Nat} {f g : Nat → Nat} {fs gs : List (Nat → Nat)} (h : Front k (f :: fs) (g :: gs)) (hk : gs.length < k) : Front k (stepH f fs a b) (stepH g gs a b) := by
  obtain ⟨pre, e, h1⟩ := h
  have := h1 (by simpa using hk)
  subst this
  obtain ⟨rfl, rfl⟩ : f = g ∧ fs = gs := by simpa using e
  exact ⟨[], rfl, fun _ => rfl⟩

theorem Front.one {k a b : Nat} {f g : Nat → Nat} {fs gs : List (Nat → Nat)} (h : Front k (f :: fs) (g :: gs)) (hk : ¬ gs.length < k) : Front k (stepH f fs a b) (g :: gs) := by
  obtain ⟨pre, e, _⟩ := h
  unfold stepH
  split
  · exact ⟨pre, e, fun h => absurd (by simpa using h) hk⟩
  · exact ⟨jn f a b :: pre, by rw [e]; rfl, fun h => absurd (by simpa using h) hk⟩

theorem Front.drop {k : Nat} {f g : Nat → Nat} {fs gs : List (Nat → Nat)} (h : Front k (f :: fs) (g :: gs)) : gs.length ≤ fs.length ∧ (f :: fs).drop (fs.length - gs.length) = g :: gs := by
  obtain ⟨pre, e, _⟩ := h
  have hl : (f :: fs).length = (pre ++ g :: gs).length := by rw [e]
  simp at hl
  refine ⟨by omega, ?_⟩
  rw [e, show fs.length - gs.length = pre.length by omega, List.drop_left]

theorem stepH_cons (f : Nat → Nat) (fs : List (Nat → Nat)) (a b : Nat) : ∃ f' fs', stepH f fs a b = f' :: fs' := by
  unfold stepH; split <;> exact ⟨_, _, rfl⟩

set_option maxRecDepth 100000 in
set_option maxHeartbeats 4000000 in
theorem back_law (n : Int) (ad : Option Addr) (qs : List Act3) (cap : Nat) (st : Int) (wb : World) (hq : Acts3 wb ad qs) :
    Calls Try.prog 3 #[.int .i64 n, .slice ad qs.length cap, .int .i64 st] wb fun e w' => e = .returned (.bool true) ∧ Below wb.heap.size wb w' := by
  obtain ⟨K, hK, hK1, hK2⟩ := mod_up n 40 (by decide) (by decide)
  obtain ⟨k, hk0, hk1⟩ := mod_inN st 40 (by decide) (by decide)
  have hk : wrap64 ((IntKind.u64.wrap st).tmod 40) = (k : Int) := hk0
  clear hk0
  have hK40 : K ≤ 40 := by omega
  have hql := hq.bound
  have hnew := hid (GL.new K wb (by omega) (by omega))
  replace hq := hid hq
  go_enter Try.func3, Try.ntmps3
  go_wp2_with fail
  try rw [hK]
  refine hnew.out.mono ?_
  rintro e w1 ⟨ga, rfl, h1⟩
  replace h1 := hid h1
  go_wp2_with fail
  try rw [hK]
  refine (G2.new h1.out hK1).mono ?_
  rintro e w2 ⟨gb, rfl, h2⟩
  have st1 : Hid (∃ f fs g gs, G2 wb ga gb K (f :: fs) (g :: gs) w2 ∧ Front k (f :: fs) (g :: gs)) := ⟨_, _, _, _, h2, [], rfl, fun _ => rfl⟩
  clear h1 h2 hnew hK
  have hKw : IntKind.u64.wrap (K : Int) = (K : Int) := by rw [IntKind.wrap_u64]; omega
  have hK0 : ¬ K = 0 := by omega
  have hK0' : ¬ (K : Int) = 0 := by omega
  go_wp2_with fail
  try rw [hk]
  clear hk
  go_loopw [13, 14, 15] (fun u _ _ wr => ∃ t : Nat, t ≤ qs.length ∧ t ≤ 80 ∧ u = .int .i64 (t : Int) ∧ Hid (∃ f fs g gs, G2 wb ga gb K (f :: fs) (g :: gs) wr ∧ Front k (f :: fs) (g :: gs))) (fun u _ _ _ => 80 - (intOf u).toNat)
  case atStart => exact ⟨0, by omega, by omega, by go_num, st1⟩
  case round =>
    clear st1
    obtain ⟨t, ht1, ht2, rfl, hst⟩ := hrel
    by_cases hgo : t < qs.length ∧ t < 80
    · obtain ⟨hgo1, hgo2⟩ := hgo
      obtain ⟨q, hqt⟩ : ∃ q, qs[t]? = some q := ⟨_, List.getElem?_eq_getElem hgo1⟩
      obtain ⟨f, fs, g, gs, h1, hF⟩ := hst.out
      cases ad with
      | none => have := hq.out.nil rfl; subst this; simp at hgo1
      | some a0 =>
        obtain ⟨_, c1, c2⟩ := (hq.out.below h1.below).at hqt
        replace h1 := hid h1.drew
        replace hF := hid hF
        obtain ⟨a, ha, haK⟩ := mod_inN q.a K (by omega) (by omega)
        obtain ⟨b, hb, hbK⟩ := mod_inN q.b K (by omega) (by omega)
        have ha' : IntKind.i64.wrap ((IntKind.u64.wrap q.a).tmod (K : Int)) = (a : Int) := (iw _).trans ha
        have hb' : IntKind.i64.wrap ((IntKind.u64.wrap q.b).tmod (K : Int)) = (b : Int) := (iw _).trans hb
        have i1 : (0 : Int) ≤ (t : Int) := by omega
        have i2 : (t : Int) < (qs.length : Int) := by omega
        have hgl := h1.out.swap.len
        clear hqt hst ha hb
        go_wp2_with fail
        go_region_held3 (fun y => y.cell? ⟨(a0.add (t * 3)).block, (a0.add (t * 3)).off + 1, none⟩ = some (.int .i64 q.a) ∧ y.cell? ⟨(a0.add (t * 3)).block, (a0.add (t * 3)).off + 2, none⟩ = some (.int .i64 q.b)) (first | assumption | go_keep) (fail)
        go_wp2_with fail
        refine (h1.out.join a b haK hbK).mono ?_
        rintro e w3 ⟨v, rfl, h3⟩
        replace h3 := hid h3
        have hstp := hid h3.out.swap.steps
        obtain ⟨D, hD⟩ : ∃ D, gs.length = D := ⟨_, rfl⟩
        rw [hD] at hstp hgl
        go_wp2_with fail
        refine hstp.out.mono ?_
        rintro e w4 ⟨rfl, rfl⟩
        replace hD := hid hD
        obtain ⟨f', fs', e1⟩ := stepH_cons f fs a b
        by_cases hlt : D < k
        · have t1 : decide ((D : Int) < (k : Int)) = true := decide_eq_true (by omega)
          have t2 : decide (D < k) = true := decide_eq_true (by omega)
          obtain ⟨g', gs', e2⟩ := stepH_cons g gs a b
          have hF2 := hid (hF.out.both (a := a) (b := b) (by rw [hD.out]; exact hlt))
          replace e1 := hid e1
          replace e2 := hid e2
          go_wp2_with fail
          refine (h3.out.swap.join a b haK hbK).mono ?_
          rintro e w5 ⟨v5, rfl, h5⟩
          have st5 : Hid (∃ f fs g gs, G2 wb ga gb K (f :: fs) (g :: gs) w5 ∧ Front k (f :: fs) (g :: gs)) := by
            refine ⟨f', fs', g', gs', ?_, ?_⟩
            · rw [← e1.out, ← e2.out]; exact h5.swap
            · rw [← e1.out, ← e2.out]; exact hF2.out
          clear h1 h3 h5 hF2 hstp
          go_wp2_with fail
          go_roundw
          case rel => exact ⟨t + 1, by omega, by omega, by go_num, st5⟩
          case measure => simp [intOf]; omega
        · have t1 : decide ((D : Int) < (k : Int)) = false := decide_eq_false (by omega)
          have t2 : decide (D < k) = false := decide_eq_false (by omega)
          have hF2 := hid (hF.out.one (a := a) (b := b) (by rw [hD.out]; exact hlt))
          have st5 : Hid (∃ f fs g gs, G2 wb ga gb K (f :: fs) (g :: gs) w3 ∧ Front k (f :: fs) (g :: gs)) := by
            refine ⟨f', fs', g, gs, ?_, ?_⟩
            · rw [← e1]; exact h3.out
            · rw [← e1]; exact hF2.out
          clear h1 h3 hF2 hstp e1
          go_wp2_with fail
          go_roundw
          case rel => exact ⟨t + 1, by omega, by omega, by go_num, st5⟩
          case measure => simp [intOf]; omega
    · have hstop : qs.length ≤ t ∨ (t < qs.length ∧ 80 ≤ t) := by omega
      clear hgo
      obtain ⟨f, fs, g, gs, h1, hF⟩ := hst.out
      obtain ⟨hle, hdr⟩ := hF.drop
      have hgl := h1.swap.len
      have hstp := hid h1.swap.steps
      have hback := h1.back gs.length hle
      rw [hdr] at hback
      obtain ⟨D, hD⟩ : ∃ D, gs.length = D := ⟨_, rfl⟩
      rw [hD] at hstp hgl hback
      replace hback := hid hback
      clear hst hF h1 hdr hle hD
      rcases hstop with hstop | ⟨hstop1, hstop2⟩
      all_goals
        go_wp2_with fail
        refine hstp.out.mono ?_
        rintro e w4 ⟨rfl, rfl⟩
        go_wp2_with fail
        refine hback.out.mono ?_
        rintro e w5 ⟨rfl, h5⟩
        replace h5 := hid h5
        obtain ⟨C, hC⟩ : ∃ C, fix K g = C := ⟨_, rfl⟩
        have hCK : C ≤ K := hC ▸ cnt_le _ _
        have hco := hid h5.out.count
        have hco2 : Hid (∀ y, G2 wb ga gb K (g :: gs) (g :: gs) y → Calls Try.prog 10 #[.pointer (some ⟨gb, 0, none⟩)] y fun e w' => e = .returned (.int .i64 (C : Int)) ∧ G2 wb ga gb K (g :: gs) (g :: gs) w') := fun y hy => by
          have := hy.swap.count
          rw [hC] at this
          exact this.mono fun e w' ⟨e1, _, e3⟩ => ⟨e1, e3.swap⟩
        rw [hC] at hco
        clear hC
        go_wp2_with fail
        refine hco.out.mono ?_
        rintro e w6 ⟨rfl, _, h6⟩
        replace h6 := hid h6
        go_wp2_with fail
        refine (hco2.out _ h6.out).mono ?_
        rintro e w7 ⟨rfl, h7⟩
        replace h7 := hid h7
        clear h6 hco hco2 h5 hback hstp
        go_wp2_with fail
        go_loopw [16, 17, 18, 19, 20, 21, 22, 23, 24] (fun u _ _ _ _ _ _ _ _ wr => ∃ x : Nat, x ≤ K ∧ u = .int .i64 (x : Int) ∧ Hid (G2 wb ga gb K (g :: gs) (g :: gs) wr)) (fun u _ _ _ _ _ _ _ _ _ => K - (intOf u).toNat)
        case atStart => exact ⟨0, by omega, by go_num, h7⟩
        case round =>
          clear h7
          obtain ⟨x, hx, rfl, h8⟩ := hrel
          rcases Nat.lt_or_ge x K with hxK | hxK
          · obtain ⟨S, hS⟩ : ∃ S, cnt (fun y => g y == g x) K = S := ⟨_, rfl⟩
            obtain ⟨L, hL⟩ : ∃ L, g x = L := ⟨_, rfl⟩
            have s1 : Hid (∀ y, G2 wb ga gb K (g :: gs) (g :: gs) y → Calls Try.prog 11 #[.pointer (some ⟨ga, 0, none⟩), .int .i64 (x : Int)] y fun e w' => e = .returned (.tuple #[.int .i64 (S : Int), .nilIface]) ∧ G2 wb ga gb K (g :: gs) (g :: gs) w') := fun y hy => by
              have := hy.size x hxK
              rw [hS] at this
              exact this
            have s2 : Hid (∀ y, G2 wb ga gb K (g :: gs) (g :: gs) y → Calls Try.prog 11 #[.pointer (some ⟨gb, 0, none⟩), .int .i64 (x : Int)] y fun e w' => e = .returned (.tuple #[.int .i64 (S : Int), .nilIface]) ∧ G2 wb ga gb K (g :: gs) (g :: gs) w') := fun y hy => by
              have := hy.swap.size x hxK
              rw [hS] at this
              exact this.mono fun e w' ⟨e1, e2⟩ => ⟨e1, e2.swap⟩
            have s3 : Hid (∀ y, G2 wb ga gb K (g :: gs) (g :: gs) y → Calls Try.prog 12 #[.pointer (some ⟨ga, 0, none⟩), .int .i64 (x : Int)] y fun e w' => e = .returned (.tuple #[.int .i64 (L : Int), .nilIface]) ∧ G2 wb ga gb K (g :: gs) (g :: gs) w') := fun y hy => by
              have := hy.least x hxK
              rw [hL] at this
              exact this
            have s4 : Hid (∀ y, G2 wb ga gb K (g :: gs) (g :: gs) y → Calls Try.prog 12 #[.pointer (some ⟨gb, 0, none⟩), .int .i64 (x : Int)] y fun e w' => e = .returned (.tuple #[.int .i64 (L : Int), .nilIface]) ∧ G2 wb ga gb K (g :: gs) (g :: gs) w') := fun y hy => by
              have := hy.swap.least x hxK
              rw [hL] at this
              exact this.mono fun e w' ⟨e1, e2⟩ => ⟨e1, e2.swap⟩
            clear hS hL
            go_wp2_with fail
            refine (s1.out _ h8.out).mono ?_
            rintro e w9 ⟨rfl, h9⟩
            replace h9 := hid h9
            go_wp2_with fail
            refine (s2.out _ h9.out).mono ?_
            rintro e w10 ⟨rfl, h10⟩
            replace h10 := hid h10
            go_wp2_with fail
            refine (s3.out _ h10.out).mono ?_
            rintro e w11 ⟨rfl, h11⟩
            replace h11 := hid h11
            go_wp2_with fail
            refine (s4.out _ h11.out).mono ?_
            rintro e w12 ⟨rfl, h12⟩
            replace h12 := hid h12
            clear s1 s2 s3 s4 h8 h9 h10 h11
            go_wp2_with fail
            go_roundw
            case rel => exact ⟨x + 1, by omega, by go_num, h12⟩
            case measure => simp [intOf]; omega
          · go_wp2_with fail
            refine (sure_ok _).mono ?_
            rintro e w9 ⟨rfl, b9⟩
            have fin := hid (h8.out.more b9).below
            go_wp2_with fail
            go_ret
            exact ⟨rfl, fin.out⟩

end Go.Proofs.Ytbjodjpdfpcjjaa
