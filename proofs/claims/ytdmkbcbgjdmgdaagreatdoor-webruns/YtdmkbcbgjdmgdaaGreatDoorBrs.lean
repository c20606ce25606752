/- The document's In and At of a web, walked. The document's Weakest of a web, walked. -/
import Derived.Test.YtdmkbcbgjdmgdaaGreatDoorBrd
import Derived.Test.YtdmkbcbgjdmgdaaGreatDoorRRoad14
namespace Go.Proofs.YtdmkbcbgjdmgdaaGreatDoor.Wd
open Go.RowKit
set_option linter.unusedVariables false

/-- Both are items. -/
def InW (n a b : Int) : Prop := 0 ≤ a ∧ a < n ∧ 0 ≤ b ∧ b < n
def IsIn (n a b : Int) (v : Value) : Prop := ∃ s, v = .bool s ∧ (s = true ↔ InW n a b)

set_option maxRecDepth 100000 in
set_option maxHeartbeats 4000000 in
theorem rin14_ok (n m : Int) (fad tad : Option Addr) (F fcap T tcap : Nat) (a b : Int) (w : World) :
    Calls Tryz.prog 63 #[.agg #[.int .i64 n, .int .i64 m, .slice fad F fcap, .slice tad T tcap], .int .i64 a, .int .i64 b] w fun e w' => ∃ v, e = .returned v ∧ IsIn n a b v ∧ Below w.heap.size w w' := by
  obtain ⟨w1, hw1⟩ : ∃ w1, w.alloc (.cells #[.int .i64 n, .int .i64 m, .slice fad F fcap, .slice tad T tcap] 32) = w1 := ⟨_, rfl⟩
  have kb : w1.heap[w.heap.size]? = some (.cells #[.int .i64 n, .int .i64 m, .slice fad F fcap, .slice tad T tcap] 32 (0, 0)) := by rw [← hw1]; exact heap_alloc_new w _
  have hb1 : Hid (Below w.heap.size w w1) := by rw [← hw1]; exact hid (balloc w _)
  have x0 : w1.cell? ⟨w.heap.size, 0, none⟩ = some (.int .i64 n) := by unfold World.cell?; rw [kb]; rfl
  replace hw1 := hid hw1
  clear kb
  by_cases h1 : 0 ≤ a
  · by_cases h2 : a < n
    · by_cases h3 : 0 ≤ b
      · by_cases h4 : b < n
        · have d1 : decide (a ≥ 0) = true := decide_eq_true h1
          have d1' : decide (0 ≤ a) = true := decide_eq_true h1
          have d2 : decide (a < n) = true := decide_eq_true h2
          have d3 : decide (b ≥ 0) = true := decide_eq_true h3
          have d3' : decide (0 ≤ b) = true := decide_eq_true h3
          have d4 : decide (b < n) = true := decide_eq_true h4
          go_enter Tryz.func63, Tryz.ntmps63
          go_upto_region 1 with fail
          rw [hw1.out]
          clear hw1
          go_wp2_with fail
          go_ret
          exact ⟨_, rfl, ⟨_, rfl, ⟨fun _ => ⟨h1, h2, h3, h4⟩, fun _ => rfl⟩⟩, hb1.out⟩
        · have d1 : decide (a ≥ 0) = true := decide_eq_true h1
          have d1' : decide (0 ≤ a) = true := decide_eq_true h1
          have d2 : decide (a < n) = true := decide_eq_true h2
          have d3 : decide (b ≥ 0) = true := decide_eq_true h3
          have d3' : decide (0 ≤ b) = true := decide_eq_true h3
          have d4 : decide (b < n) = false := decide_eq_false h4
          go_enter Tryz.func63, Tryz.ntmps63
          go_upto_region 1 with fail
          rw [hw1.out]
          clear hw1
          go_wp2_with fail
          go_ret
          exact ⟨_, rfl, ⟨_, rfl, ⟨(fun q => by cases q), fun q => absurd q.2.2.2 (by omega)⟩⟩, hb1.out⟩
      · have d1 : decide (a ≥ 0) = true := decide_eq_true h1
        have d1' : decide (0 ≤ a) = true := decide_eq_true h1
        have d2 : decide (a < n) = true := decide_eq_true h2
        have d3 : decide (b ≥ 0) = false := decide_eq_false h3
        have d3' : decide (0 ≤ b) = false := decide_eq_false h3
        go_enter Tryz.func63, Tryz.ntmps63
        go_upto_region 1 with fail
        rw [hw1.out]
        clear hw1
        go_wp2_with fail
        go_ret
        exact ⟨_, rfl, ⟨_, rfl, ⟨(fun q => by cases q), fun q => absurd q.2.2.1 (by omega)⟩⟩, hb1.out⟩
    · have d1 : decide (a ≥ 0) = true := decide_eq_true h1
      have d1' : decide (0 ≤ a) = true := decide_eq_true h1
      have d2 : decide (a < n) = false := decide_eq_false h2
      go_enter Tryz.func63, Tryz.ntmps63
      go_upto_region 1 with fail
      rw [hw1.out]
      clear hw1
      go_wp2_with fail
      go_ret
      exact ⟨_, rfl, ⟨_, rfl, ⟨(fun q => by cases q), fun q => absurd q.2.1 (by omega)⟩⟩, hb1.out⟩
  · have d1 : decide (a ≥ 0) = false := decide_eq_false h1
    have d1' : decide (0 ≤ a) = false := decide_eq_false h1
    go_enter Tryz.func63, Tryz.ntmps63
    go_upto_region 1 with fail
    rw [hw1.out]
    clear hw1
    go_wp2_with fail
    go_ret
    exact ⟨_, rfl, ⟨_, rfl, ⟨(fun q => by cases q), fun q => absurd q.1 (by omega)⟩⟩, hb1.out⟩

/-- The place of a tie. -/
def AtIs (ts : List Ti) (e i : Int) : Prop := (∃ (j : Nat) (t : Ti), i = (j : Int) ∧ ts[j]? = some t ∧ (t.e : Int) = e ∧ ∀ q t', q < j → ts[q]? = some t' → (t'.e : Int) ≠ e) ∨ (i = -1 ∧ ∀ t, t ∈ ts → (t.e : Int) ≠ e)

set_option maxRecDepth 100000 in
set_option maxHeartbeats 4000000 in
theorem rat14_ok (n m : Int) (fad : Option Addr) (F fcap : Nat) (tv : Value) (ts : List Ti) (e : Int) (w : World) (hT : TV w tv ts) (htl : ts.length ≤ 1000) :
    Calls Tryz.prog 13 #[.agg #[.int .i64 n, .int .i64 m, .slice fad F fcap, tv], .int .i64 e] w fun x w' => ∃ i, x = .returned (.int .i64 i) ∧ AtIs ts e i ∧ Below w.heap.size w w' := by
  have hT0 := hid hT
  obtain ⟨tad, tcap, rfl⟩ := hT.form
  obtain ⟨T, hTl⟩ : ∃ T, ts.length = T := ⟨_, rfl⟩
  rw [hTl] at hT0 htl ⊢
  replace hTl := hid hTl
  obtain ⟨w1, hw1⟩ : ∃ w1, w.alloc (.cells #[.int .i64 n, .int .i64 m, .slice fad F fcap, .slice tad T tcap] 32) = w1 := ⟨_, rfl⟩
  have kb : w1.heap[w.heap.size]? = some (.cells #[.int .i64 n, .int .i64 m, .slice fad F fcap, .slice tad T tcap] 32 (0, 0)) := by rw [← hw1]; exact heap_alloc_new w _
  have hb1 : Hid (Below w.heap.size w w1) := by rw [← hw1]; exact hid (balloc w _)
  have x0 : w1.cell? ⟨w.heap.size, 3, none⟩ = some (.slice tad T tcap) := by unfold World.cell?; rw [kb]; rfl
  have hTy := hid (hT0.out.below hb1.out)
  replace hw1 := hid hw1
  clear kb hT hT0
  go_enter Tryz.func13, Tryz.ntmps13
  go_upto_region 1 with fail
  rw [hw1.out]
  clear hw1
  go_wp2_with fail
  go_loopw [5] (fun s5 wr => ∃ i : Nat, i ≤ T ∧ s5 = .int .i64 (i : Int) ∧ Hid (w1 = wr) ∧ Hid (∀ q t', q < i → ts[q]? = some t' → (t'.e : Int) ≠ e)) (fun s5 _ => T - (intOf s5).toNat)
  case atStart => exact ⟨0, by omega, by go_num, hid rfl, hid (fun q t' hq => by omega)⟩
  case round =>
    obtain ⟨i, hi, rfl, hwr, hno⟩ := hrel
    have hwr' := hwr.out
    subst hwr'
    clear hwr
    rcases Nat.lt_or_ge i T with hil | hig
    · obtain ⟨t, ht⟩ : ∃ t, ts[i]? = some t := ⟨_, List.getElem?_eq_getElem (by rw [hTl.out]; exact hil)⟩
      obtain ⟨tg, tof, tcp, e0, q0, q1, q2, q3⟩ := hTy.out.cells ht
      simp only [Value.slice.injEq] at e0
      obtain ⟨hte, hq9, hq8⟩ := e0
      rw [hte] at x0
      clear hq9 hq8 q1 q2 q3
      replace hte := hid hte
      have i1 : (0 : Int) ≤ (i : Int) := by omega
      have i2 : (i : Int) < (T : Int) := by omega
      have v1 : decide ((i : Int) < (T : Int)) = true := decide_eq_true (by omega)
      have v1' : decide (i < T) = true := decide_eq_true hil
      obtain ⟨te, hte'⟩ : ∃ te : Int, (t.e : Int) = te := ⟨_, rfl⟩
      rw [hte'] at q0
      replace hte' := hid hte'
      by_cases hq : te = e
      · have v2 : (te == e) = true := by simp [hq]
        have hfin : Hid (AtIs ts e (i : Int)) := hid (.inl ⟨i, t, rfl, ht, hte'.out.trans hq, hno.out⟩)
        clear hq ht hno
        go_wp2_with fail
        go_ret
        exact ⟨_, rfl, hfin.out, hb1.out⟩
      · have v2 : (te == e) = false := by simp [hq]
        have hno2 : Hid (∀ q t', q < i + 1 → ts[q]? = some t' → (t'.e : Int) ≠ e) := hid (fun q t' h1 h2 => by
          by_cases h3 : q = i
          · subst h3
            rw [ht] at h2
            cases h2
            rw [hte'.out]
            exact hq
          · exact hno.out q t' (by omega) h2)
        clear hq ht hno
        go_wp2_with fail
        go_roundw
        case rel => exact ⟨i + 1, by omega, by go_num, by first | exact hid rfl | exact trivial, hno2⟩
        case measure => simp [intOf]; omega
    · obtain rfl : i = T := by omega
      have v1 : decide ((i : Int) < (i : Int)) = false := decide_eq_false (by omega)
      have hfin : Hid (AtIs ts e (-1)) := hid (.inr ⟨rfl, fun t ht => by
        obtain ⟨j, hj⟩ := List.getElem?_of_mem ht
        exact hno.out j t (by have := (List.getElem?_eq_some_iff.1 hj).1; have := hTl.out; omega) hj⟩)
      go_wp2_with fail
      go_ret
      exact ⟨_, rfl, hfin.out, hb1.out⟩
end Go.Proofs.YtdmkbcbgjdmgdaaGreatDoor.Wd

namespace Go.Proofs.YtdmkbcbgjdmgdaaGreatDoor.Wd
open Go.RowKit
set_option linter.unusedVariables false

/-- The first one of the least key among the first i. -/
def Lk (l : List Ti) (i : Nat) (z : Int) : Prop := (i = 0 ∧ z = -1) ∨ ∃ (j : Nat) (t : Ti), z = (j : Int) ∧ j < i ∧ l[j]? = some t ∧ (∀ q t', q < i → l[q]? = some t' → t.key ≤ t'.key) ∧ ∀ q t', q < j → l[q]? = some t' → t.key < t'.key

theorem Lk.first {l : List Ti} {t : Ti} (h : l[0]? = some t) : Lk l 1 0 := .inr ⟨0, t, rfl, by omega, h, (fun q t' hq h' => by
  obtain rfl : q = 0 := by omega
  rw [h] at h'
  cases h'
  exact Int.le_refl _), fun q t' hq => by omega⟩
theorem Lk.less {l : List Ti} {i j : Nat} {t u : Ti} (h : Lk l i (j : Int)) (hj : l[j]? = some t) (hi : l[i]? = some u) (hu : u.key < t.key) : Lk l (i + 1) (i : Int) := by
  rcases h with ⟨_, h⟩ | ⟨j', t', e, h1, h2, h3, h4⟩
  · omega
  · obtain rfl : j = j' := by omega
    rw [hj] at h2
    cases h2
    refine .inr ⟨i, u, rfl, by omega, hi, fun q t' hq h' => ?_, fun q t' hq h' => ?_⟩
    · by_cases e : q = i
      · subst e; rw [hi] at h'; cases h'; exact Int.le_refl _
      · have := h3 q t' (by omega) h'; omega
    · have := h3 q t' hq h'; omega
theorem Lk.same {l : List Ti} {i j : Nat} {t u : Ti} (h : Lk l i (j : Int)) (hj : l[j]? = some t) (hi : l[i]? = some u) (hu : ¬ u.key < t.key) : Lk l (i + 1) (j : Int) := by
  rcases h with ⟨_, h⟩ | ⟨j', t', e, h1, h2, h3, h4⟩
  · omega
  · obtain rfl : j = j' := by omega
    rw [hj] at h2
    cases h2
    refine .inr ⟨j, t, rfl, by omega, hj, fun q t' hq h' => ?_, h4⟩
    by_cases e : q = i
    · subst e; rw [hi] at h'; cases h'; omega
    · exact h3 q t' (by omega) h'

/-- The weakest one's number: none, -1. -/
def WkIs (l : List Ti) (z : Int) : Prop := (l = [] ∧ z = -1) ∨ ∃ (j : Nat) (t : Ti), l[j]? = some t ∧ z = (t.e : Int) ∧ (∀ t', t' ∈ l → t.key ≤ t'.key) ∧ ∀ q t', q < j → l[q]? = some t' → t.key < t'.key

/-- What Weakest answers. -/
def WeIs (n : Int) (ts : List Ti) (fi : Nat → Nat) (a b z er : Int) : Prop :=
  (¬ InW n a b ∧ z = 0 ∧ er = 12) ∨ (InW n a b ∧ (¬ ∃ r ls, FR fi (tA ts) (tB ts) (· < ts.length) (fi a.toNat) (fi b.toNat) r ls) ∧ z = 0 ∧ er = 21) ∨ (InW n a b ∧ er = 0 ∧ ∃ r ls, FR fi (tA ts) (tB ts) (· < ts.length) (fi a.toNat) (fi b.toNat) r ls ∧ ls.Nodup ∧ WkIs (r.map (tieAt ts)) z)

set_option maxRecDepth 100000 in
set_option maxHeartbeats 4000000 in
theorem rweak14_ok (n m : Int) (fad : Option Addr) (F fcap : Nat) (tv : Value) (ts : List Ti) (fi : Nat → Nat) (It : Nat → Prop) (a b : Int) (w : World) (hT : TV w tv ts) (htl : ts.length ≤ 1000) (hF : F ≤ 1000) (hit : ∀ t, t ∈ ts → It t.a ∧ It t.b) (hfi : ∀ d, It d → fi d < F) (hIn : ∀ d : Nat, (d : Int) < n → It d)
    (hfind : ∀ y, Below w.heap.size w y → ∀ d : Nat, It d → Calls Tryz.prog 39 #[.slice fad F fcap, .int .i64 (d : Int)] y fun e w' => ∃ k : Int, e = .returned (.tuple #[.int .i64 (fi d : Int), .int .i64 k]) ∧ Below y.heap.size y w') :
    Calls Tryz.prog 37 #[.agg #[.int .i64 n, .int .i64 m, .slice fad F fcap, tv], .int .i64 a, .int .i64 b] w fun e w' => ∃ z er, e = .returned (.tuple #[.int .i64 z, .int .i64 er]) ∧ WeIs n ts fi a b z er ∧ Below w.heap.size w w' := by
  have hT0 := hid hT
  obtain ⟨tad, tcap, rfl⟩ := hT.form
  obtain ⟨w1, hw1⟩ : ∃ w1, w.alloc (.cells #[.int .i64 n, .int .i64 m, .slice fad F fcap, .slice tad ts.length tcap] 32) = w1 := ⟨_, rfl⟩
  have kb : w1.heap[w.heap.size]? = some (.cells #[.int .i64 n, .int .i64 m, .slice fad F fcap, .slice tad ts.length tcap] 32 (0, 0)) := by rw [← hw1]; exact heap_alloc_new w _
  have hb1 : Hid (Below w.heap.size w w1) := by rw [← hw1]; exact hid (balloc w _)
  have hX : Hid (∀ y, Below w1.heap.size w1 y → y.cell? ⟨w.heap.size, 0, none⟩ = some (.int .i64 n) ∧ y.cell? ⟨w.heap.size, 1, none⟩ = some (.int .i64 m) ∧ y.cell? ⟨w.heap.size, 2, none⟩ = some (.slice fad F fcap) ∧ y.cell? ⟨w.heap.size, 3, none⟩ = some (.slice tad ts.length tcap)) := hid (fun y hy => by
    have h1 := (hy.block _ (Array.getElem?_eq_some_iff.1 kb).1).trans kb
    refine ⟨?_, ?_, ?_, ?_⟩ <;> (unfold World.cell?; rw [h1]; rfl))
  have hin := hid (fun y => rin14_ok n m fad tad F fcap ts.length tcap a b y)
  have hro : Hid (InW n a b → ∀ y, Below w1.heap.size w1 y → Calls Tryz.prog 66 #[.agg #[.int .i64 n, .int .i64 m, .slice fad F fcap, .slice tad ts.length tcap], .int .i64 a, .int .i64 b] y fun e w' => ∃ rv s, e = .returned (.tuple #[rv, .bool s]) ∧ RdIs ts fi a.toNat b.toNat w' rv s ∧ Below y.heap.size y w') := hid (fun hi y hy => by
    have hw : Below w.heap.size w y := hb1.out.trans (hy.mono hb1.out.size)
    obtain ⟨h1, h2, h3, h4⟩ := hi
    have := rroad14_ok n m fad F fcap (.slice tad ts.length tcap) ts fi It a.toNat b.toNat y (hT0.out.below hw) htl hF hit hfi (hIn _ (by omega)) (hIn _ (by omega)) (fun z hz d hd => hfind z (hw.trans (hz.mono hw.size)) d hd)
    rw [show ((a.toNat : Nat) : Int) = a from by omega, show ((b.toNat : Nat) : Int) = b from by omega] at this
    exact this)
  replace hw1 := hid hw1
  obtain ⟨T, hTl⟩ : ∃ T, ts.length = T := ⟨_, rfl⟩
  rw [hTl] at htl hw1 hX hin hro ⊢
  replace hTl := hid hTl
  clear hT hT0 kb hfind
  obtain ⟨x0, x1, x2, x3⟩ := hX.out _ (Below.refl _ _)
  go_enter Tryz.func37, Tryz.ntmps37
  go_upto_region 1 with fail
  rw [hw1.out]
  clear hw1
  go_wp2_with fail
  refine (hin.out _).mono ?_
  rintro e w2 ⟨v, rfl, ⟨s, rfl, hs⟩, b2⟩
  replace b2 := hid b2
  clear x0 x1 x2 x3 hin
  obtain ⟨x0, x1, x2, x3⟩ := hX.out _ b2.out
  have hB2 := hid (hb1.out.trans (b2.out.mono hb1.out.size))
  cases s with
  | false =>
    have hfin : Hid (WeIs n ts fi a b 0 12) := hid (.inl ⟨fun q => (by have := hs.2 q; cases this), rfl, rfl⟩)
    clear hs
    go_wp2_with fail
    go_ret2
    exact ⟨_, _, rfl, hfin.out, hB2.out⟩
  | true =>
    have hI := hid (hs.1 rfl)
    clear hs
    go_wp2_with fail
    refine (hro.out hI.out _ b2.out).mono ?_
    rintro e w3 ⟨rv, s, rfl, hrd, b3⟩
    have hB3 := hid (hB2.out.trans (b3.mono hB2.out.size))
    clear x0 x1 x2 x3 hro b2 b3 hB2 hX
    cases s with
    | false =>
      have hfin : Hid (WeIs n ts fi a b 0 21) := hid (.inr (.inl ⟨hI.out, fun q => (by have := hrd.1.2 q; cases this), rfl, rfl⟩))
      have hrv := hrd.2.2 rfl
      subst hrv
      clear hrd
      go_wp2_with fail
      go_ret2
      exact ⟨_, _, rfl, hfin.out, hB3.out⟩
    | true =>
      obtain ⟨r, ls, hfr, hnd, htv⟩ := hrd.2.1 rfl
      obtain ⟨l, hl⟩ : ∃ l, r.map (tieAt ts) = l := ⟨_, rfl⟩
      rw [hl] at htv
      have hfin : Hid (∀ z, WkIs l z → WeIs n ts fi a b z 0) := hid (fun z hz => .inr (.inr ⟨hI.out, rfl, r, ls, hfr, hnd, by rw [hl]; exact hz⟩))
      obtain ⟨rad, rcap, hrv⟩ := htv.form
      obtain ⟨R, hR⟩ : ∃ R, l.length = R := ⟨_, rfl⟩
      rw [hR] at hrv
      subst hrv
      have hRb : R ≤ maxLen := by
        obtain ⟨_, _, _, e, _, h3, h4, _⟩ := htv
        simp only [Value.slice.injEq] at e
        obtain ⟨_, rfl, _⟩ := e
        omega
      unfold maxLen at hRb
      replace hR := hid hR
      have hTy : Hid (∀ y, Below w3.heap.size w3 y → TV y (.slice rad R rcap) l) := hid (fun y hy => htv.below hy)
      clear hrd hfr hnd htv hl hI
      go_wp2_with fail
      go_loopw [10, 11] (fun s10 s11 wr => ∃ (i : Nat) (z : Int), i ≤ R ∧ s11 = .int .i64 (i : Int) ∧ s10 = .int .i64 z ∧ Hid (Lk l i z) ∧ Hid (Below w3.heap.size w3 wr)) (fun _ s11 _ => R - (intOf s11).toNat)
      case atStart => exact ⟨0, -1, by omega, by go_num, rfl, hid (.inl ⟨rfl, rfl⟩), hid (Below.refl _ _)⟩
      case round =>
        obtain ⟨i, z, hi, rfl, rfl, hlk, hbl⟩ := hrel
        rcases Nat.lt_or_ge i R with hil | hig
        · obtain ⟨t, ht⟩ : ∃ t, l[i]? = some t := ⟨_, List.getElem?_eq_getElem (by rw [hR.out]; exact hil)⟩
          have i1 : (0 : Int) ≤ (i : Int) := by omega
          have i2 : (i : Int) < (R : Int) := by omega
          have v1 : decide ((i : Int) < (R : Int)) = true := decide_eq_true (by omega)
          have v1' : decide (i < R) = true := decide_eq_true hil
          rcases hlk.out with ⟨rfl, rfl⟩ | ⟨j, u, rfl, hji, hj, _⟩
          · have v2 : decide ((-1 : Int) < 0) = true := rfl
            have hk2 := hid (Lk.first ht)
            clear ht hlk
            go_upto_region 10 with fail
            go_quiet (fail)
            go_wp2_with fail
            go_roundw
            case rel => exact ⟨1, 0, by omega, by go_num, by go_num, hk2, hid (belowN hbl.out _)⟩
            case measure => simp [intOf]; omega
          · obtain ⟨tg, tof, tcp, e0, q0, q1, q2, q3⟩ := (hTy.out _ hbl.out).cells ht
            obtain ⟨tg', tof', tcp', e0', p0, p1, p2, p3⟩ := (hTy.out _ hbl.out).cells hj
            simp only [Value.slice.injEq] at e0 e0'
            obtain ⟨hte, h91, h92⟩ := e0
            obtain ⟨hte', h93, h94⟩ := e0'
            rw [hte] at hte'
            simp only [Option.some.injEq, Addr.mk.injEq, and_true] at hte'
            obtain ⟨rfl, rfl⟩ := hte'
            subst hte
            clear h91 h92 h93 h94 q0 q1 q2 p0 p1 p2
            have j1 : (0 : Int) ≤ (j : Int) := by omega
            have j2 : (j : Int) < (R : Int) := by omega
            have v2 : decide ((j : Int) < 0) = false := decide_eq_false (by omega)
            obtain ⟨kt, hkt⟩ : ∃ kt, t.key = kt := ⟨_, rfl⟩
            obtain ⟨ku, hku⟩ : ∃ ku, u.key = ku := ⟨_, rfl⟩
            rw [hkt] at q3
            rw [hku] at p3
            by_cases hc : kt < ku
            · have v3 : decide (kt < ku) = true := decide_eq_true hc
              have hk2 := hid (Lk.less hlk.out hj ht (by rw [hkt, hku]; exact hc))
              clear ht hlk hj hc hkt hku
              go_upto_region 10 with fail
              go_quiet (fail)
              go_wp2_with fail
              go_roundw
              case rel => exact ⟨i + 1, i, by omega, by go_num, by go_num, hk2, hid (belowN hbl.out _)⟩
              case measure => simp [intOf]; omega
            · have v3 : decide (kt < ku) = false := decide_eq_false hc
              have hk2 := hid (Lk.same hlk.out hj ht (by rw [hkt, hku]; exact hc))
              clear ht hlk hj hc hkt hku
              go_upto_region 10 with fail
              go_quiet (fail)
              go_wp2_with fail
              go_roundw
              case rel => exact ⟨i + 1, j, by omega, by go_num, by go_num, hk2, hid (belowN hbl.out _)⟩
              case measure => simp [intOf]; omega
        · obtain rfl : i = R := by omega
          have v1 : decide ((i : Int) < (i : Int)) = false := decide_eq_false (by omega)
          have hbw := hid (hB3.out.trans (hbl.out.mono hB3.out.size))
          rcases hlk.out with ⟨h0, rfl⟩ | ⟨j, u, rfl, hji, hj, h3, h4⟩
          · have hf := hid (hfin.out (-1) (.inl ⟨List.eq_nil_of_length_eq_zero (by rw [hR.out]; exact h0), rfl⟩))
            clear hlk h0
            go_wp2_with fail
            go_ret2
            exact ⟨_, _, rfl, hf.out, hbw.out⟩
          · obtain ⟨tg, tof, tcp, e0, q0, q1, q2, q3⟩ := (hTy.out _ hbl.out).cells hj
            simp only [Value.slice.injEq] at e0
            obtain ⟨hte, h91, h92⟩ := e0
            subst hte
            clear h91 h92 q1 q2 q3
            have j1 : (0 : Int) ≤ (j : Int) := by omega
            have j2 : (j : Int) < (i : Int) := by omega
            have v2 : decide ((j : Int) < 0) = false := decide_eq_false (by omega)
            have hf := hid (hfin.out (u.e : Int) (.inr ⟨j, u, hj, rfl, fun t' ht' => by
              obtain ⟨q, hq⟩ := List.getElem?_of_mem ht'
              exact h3 q t' (by have := (List.getElem?_eq_some_iff.1 hq).1; have := hR.out; omega) hq, h4⟩))
            clear hlk hj h3 h4
            go_wp2_with fail
            go_ret2
            exact ⟨_, _, rfl, hf.out, hbw.out⟩
end Go.Proofs.YtdmkbcbgjdmgdaaGreatDoor.Wd
