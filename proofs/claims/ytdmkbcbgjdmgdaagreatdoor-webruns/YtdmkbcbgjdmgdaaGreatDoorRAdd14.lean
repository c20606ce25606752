/- The document's Add of a web, walked. -/
import Derived.Test.YtdmkbcbgjdmgdaaGreatDoorBrd
import Derived.Test.YtdmkbcbgjdmgdaaGreatDoorRRoad14
import Derived.Test.YtdmkbcbgjdmgdaaGreatDoorRDrop14
namespace Go.Proofs.YtdmkbcbgjdmgdaaGreatDoor.Wd
open Go.RowKit
set_option linter.unusedVariables false

/-- What Add answers. -/
def AdIs (n m : Int) (ts : List Ti) (fi : Nat → Nat) (e a b key er : Int) (ts' : List Ti) : Prop :=
  (¬ (0 ≤ e ∧ e < m ∧ InW n a b) ∧ er = 12 ∧ ts' = ts) ∨ ((0 ≤ e ∧ e < m ∧ InW n a b) ∧ ((key = 9223372036854775807 ∧ er = 1 ∧ ts' = ts) ∨ (key ≠ 9223372036854775807 ∧ ((∃ r ls, FR fi (tA ts) (tB ts) (· < ts.length) (fi a.toNat) (fi b.toNat) r ls) ∨ ∃ t, t ∈ ts ∧ (t.e : Int) = e) ∧ er = 20 ∧ ts' = ts) ∨ (key ≠ 9223372036854775807 ∧ (¬ ∃ r ls, FR fi (tA ts) (tB ts) (· < ts.length) (fi a.toNat) (fi b.toNat) r ls) ∧ (∀ t, t ∈ ts → (t.e : Int) ≠ e) ∧ er = 0 ∧ ts' = ts ++ [⟨e.toNat, a.toNat, b.toNat, key⟩])))

set_option maxRecDepth 100000 in
set_option maxHeartbeats 4000000 in
theorem radd14_ok (n m : Int) (fad : Option Addr) (F fcap : Nat) (tv : Value) (ts : List Ti) (fi : Nat → Nat) (It : Nat → Prop) (e a b key : Int) (w : World) (hT : TV w tv ts) (htl : ts.length ≤ 1000) (hF : F ≤ 1000) (hit : ∀ t, t ∈ ts → It t.a ∧ It t.b) (hfi : ∀ d, It d → fi d < F) (hIn : ∀ d : Nat, (d : Int) < n → It d)
    (hfind : ∀ y, Below w.heap.size w y → ∀ d : Nat, It d → Calls Tryz.prog 39 #[.slice fad F fcap, .int .i64 (d : Int)] y fun e w' => ∃ k : Int, e = .returned (.tuple #[.int .i64 (fi d : Int), .int .i64 k]) ∧ Below y.heap.size y w') :
    Calls Tryz.prog 34 #[.agg #[.int .i64 n, .int .i64 m, .slice fad F fcap, tv], .agg #[.int .i64 e, .int .i64 a, .int .i64 b, .int .i64 key]] w fun x w' => ∃ tv' er ts', x = .returned (.tuple #[.agg #[.int .i64 n, .int .i64 m, .slice fad F fcap, tv'], .int .i64 er]) ∧ AdIs n m ts fi e a b key er ts' ∧ TV w' tv' ts' ∧ Below w.heap.size w w' := by
  have hT0 := hid hT
  obtain ⟨tad, tcap, rfl⟩ := hT.form
  have hat := hid (fun (e : Int) y (hy : TV y (.slice tad ts.length tcap) ts) => rat14_ok n m fad F fcap (.slice tad ts.length tcap) ts e y hy htl)
  have hin := hid (fun a b y => rin14_ok n m fad tad F fcap ts.length tcap a b y)
  have hro : Hid (∀ a b : Nat, (a : Int) < n → (b : Int) < n → ∀ y, Below w.heap.size w y → Calls Tryz.prog 66 #[.agg #[.int .i64 n, .int .i64 m, .slice fad F fcap, .slice tad ts.length tcap], .int .i64 (a : Int), .int .i64 (b : Int)] y fun e w' => ∃ rv s, e = .returned (.tuple #[rv, .bool s]) ∧ RdIs ts fi a b w' rv s ∧ Below y.heap.size y w') := hid (fun a b h1 h2 y hw => rroad14_ok n m fad F fcap (.slice tad ts.length tcap) ts fi It a b y (hT0.out.below hw) htl hF hit hfi (hIn _ h1) (hIn _ h2) (fun z hz d hd => hfind z (hw.trans (hz.mono hw.size)) d hd))
  obtain ⟨T, hTl⟩ : ∃ T, ts.length = T := ⟨_, rfl⟩
  rw [hTl] at hT0 htl hat hin hro ⊢
  replace hTl := hid hTl
  clear hT hfind hit hfi hIn
  by_cases h1 : e < 0
  · have v1 : decide (e < 0) = true := decide_eq_true h1
    have hdr : Hid (AdIs n m ts fi e a b key 12 ts) := hid (.inl ⟨fun q => by have := q.1; omega, rfl, rfl⟩)
    clear h1
    obtain ⟨w1, hw1⟩ : ∃ w1, ((w.alloc (.cells #[.int .i64 n, .int .i64 m, .slice fad F fcap, .slice tad T tcap] 32)).alloc (.cells #[.int .i64 e, .int .i64 a, .int .i64 b, .int .i64 key] 62)).alloc (.cells #[.int .i64 0, .int .i64 0, .slice none 0 0, .slice none 0 0] 32) = w1 := ⟨_, rfl⟩
    have kb : Hid (w1.heap[w.heap.size]? = some (.cells #[.int .i64 n, .int .i64 m, .slice fad F fcap, .slice tad T tcap] 32 (0, 0))) := by
      rw [← hw1]
      exact hid (((balloc _ _).block _ (by simp; omega)).trans (((balloc _ _).block _ (by simp)).trans (heap_alloc_new w _)))
    have kt : Hid (w1.heap[w.heap.size + 1]? = some (.cells #[.int .i64 e, .int .i64 a, .int .i64 b, .int .i64 key] 62 (0, 0))) := by
      rw [← hw1]
      have := heap_alloc_new (w.alloc (.cells #[.int .i64 n, .int .i64 m, .slice fad F fcap, .slice tad T tcap] 32)) (.cells #[.int .i64 e, .int .i64 a, .int .i64 b, .int .i64 key] 62)
      rw [show (w.alloc (.cells #[.int .i64 n, .int .i64 m, .slice fad F fcap, .slice tad T tcap] 32)).heap.size = w.heap.size + 1 from by simp] at this
      exact hid (((balloc _ _).block _ (by simp)).trans this)
    have kr : Hid (w1.heap[w.heap.size + 2]? = some (.cells #[.int .i64 0, .int .i64 0, .slice none 0 0, .slice none 0 0] 32 (0, 0))) := by
      rw [← hw1]
      have := heap_alloc_new ((w.alloc (.cells #[.int .i64 n, .int .i64 m, .slice fad F fcap, .slice tad T tcap] 32)).alloc (.cells #[.int .i64 e, .int .i64 a, .int .i64 b, .int .i64 key] 62)) (.cells #[.int .i64 0, .int .i64 0, .slice none 0 0, .slice none 0 0] 32)
      rw [show ((w.alloc (.cells #[.int .i64 n, .int .i64 m, .slice fad F fcap, .slice tad T tcap] 32)).alloc (.cells #[.int .i64 e, .int .i64 a, .int .i64 b, .int .i64 key] 62)).heap.size = w.heap.size + 2 from by simp] at this
      exact hid this
    have hbw : Hid (Below w.heap.size w w1) := by
      rw [← hw1]
      exact hid (((balloc w _).trans ((balloc _ _).mono (by simp))).trans ((balloc _ _).mono (by simp; omega)))
    have hTV := hid (hT0.out.below hbw.out)
    replace hw1 := hid hw1
    obtain ⟨⟨b0, b1, b2, b3⟩, _⟩ := blk4 kb.out
    obtain ⟨⟨c0, c1, c2, c3⟩, _⟩ := blk4 kt.out
    go_enter Tryz.func34, Tryz.ntmps34
    go_upto_region 1 with fail
    rw [hw1.out]
    clear hw1
    have hfin := hid (fin4 kr.out hbw.out (by omega) (hTV.out) (.int .i64 n) (.int .i64 m) (.slice fad F fcap))
    obtain ⟨⟨f1, f2, f3, f4⟩, _⟩ := blk4 kb.out
    obtain ⟨⟨f5, f6, f7, f8⟩, f9, f10, f11, f12⟩ := blk4 kr.out
    go_wp2_with fail
    refine bodyPost_ret (results_cell2 rfl _ _ (w.heap.size + 2) 32 _ (0, 0) _ rfl hfin.out.1 Tryz.underlying32 rfl (by kernel_rfl)) rfl ?_
    exact ⟨_, _, _, rfl, hdr.out, hfin.out.2.2, hfin.out.2.1⟩
  · have v1 : decide (e < 0) = false := decide_eq_false h1
    by_cases h2 : e < m
    · have v2 : decide (e ≥ m) = false := decide_eq_false (by omega)
      have v2' : decide (m ≤ e) = false := decide_eq_false (by omega)
      by_cases hI : InW n a b
      · obtain ⟨en, rfl⟩ : ∃ en : Nat, e = (en : Int) := ⟨e.toNat, by omega⟩
        obtain ⟨an, rfl⟩ : ∃ an : Nat, a = (an : Int) := ⟨a.toNat, by have := hI.1; omega⟩
        obtain ⟨bn, rfl⟩ : ∃ bn : Nat, b = (bn : Int) := ⟨b.toNat, by have := hI.2.2.1; omega⟩
        have hall : Hid (0 ≤ (en : Int) ∧ (en : Int) < m ∧ InW n (an : Int) (bn : Int)) := hid ⟨by omega, h2, hI⟩
        have han : Hid ((an : Int) < n) := hid hI.2.1
        have hbn : Hid ((bn : Int) < n) := hid hI.2.2.2
        replace hI := hid hI
        clear h1 h2
        obtain ⟨w1, hw1⟩ : ∃ w1, ((w.alloc (.cells #[.int .i64 n, .int .i64 m, .slice fad F fcap, .slice tad T tcap] 32)).alloc (.cells #[.int .i64 (en : Int), .int .i64 (an : Int), .int .i64 (bn : Int), .int .i64 key] 62)).alloc (.cells #[.int .i64 0, .int .i64 0, .slice none 0 0, .slice none 0 0] 32) = w1 := ⟨_, rfl⟩
        have kb : Hid (w1.heap[w.heap.size]? = some (.cells #[.int .i64 n, .int .i64 m, .slice fad F fcap, .slice tad T tcap] 32 (0, 0))) := by
          rw [← hw1]
          exact hid (((balloc _ _).block _ (by simp; omega)).trans (((balloc _ _).block _ (by simp)).trans (heap_alloc_new w _)))
        have kt : Hid (w1.heap[w.heap.size + 1]? = some (.cells #[.int .i64 (en : Int), .int .i64 (an : Int), .int .i64 (bn : Int), .int .i64 key] 62 (0, 0))) := by
          rw [← hw1]
          have := heap_alloc_new (w.alloc (.cells #[.int .i64 n, .int .i64 m, .slice fad F fcap, .slice tad T tcap] 32)) (.cells #[.int .i64 (en : Int), .int .i64 (an : Int), .int .i64 (bn : Int), .int .i64 key] 62)
          rw [show (w.alloc (.cells #[.int .i64 n, .int .i64 m, .slice fad F fcap, .slice tad T tcap] 32)).heap.size = w.heap.size + 1 from by simp] at this
          exact hid (((balloc _ _).block _ (by simp)).trans this)
        have kr : Hid (w1.heap[w.heap.size + 2]? = some (.cells #[.int .i64 0, .int .i64 0, .slice none 0 0, .slice none 0 0] 32 (0, 0))) := by
          rw [← hw1]
          have := heap_alloc_new ((w.alloc (.cells #[.int .i64 n, .int .i64 m, .slice fad F fcap, .slice tad T tcap] 32)).alloc (.cells #[.int .i64 (en : Int), .int .i64 (an : Int), .int .i64 (bn : Int), .int .i64 key] 62)) (.cells #[.int .i64 0, .int .i64 0, .slice none 0 0, .slice none 0 0] 32)
          rw [show ((w.alloc (.cells #[.int .i64 n, .int .i64 m, .slice fad F fcap, .slice tad T tcap] 32)).alloc (.cells #[.int .i64 (en : Int), .int .i64 (an : Int), .int .i64 (bn : Int), .int .i64 key] 62)).heap.size = w.heap.size + 2 from by simp] at this
          exact hid this
        have hbw : Hid (Below w.heap.size w w1) := by
          rw [← hw1]
          exact hid (((balloc w _).trans ((balloc _ _).mono (by simp))).trans ((balloc _ _).mono (by simp; omega)))
        have hTV := hid (hT0.out.below hbw.out)
        replace hw1 := hid hw1
        obtain ⟨⟨b0, b1, b2, b3⟩, _⟩ := blk4 kb.out
        obtain ⟨⟨c0, c1, c2, c3⟩, _⟩ := blk4 kt.out
        go_enter Tryz.func34, Tryz.ntmps34
        go_upto_region 1 with fail
        rw [hw1.out]
        clear hw1
        go_wp2_with fail
        refine (hin.out _ _ _).mono ?_
        rintro x w2 ⟨v, rfl, ⟨s, rfl, hs⟩, bb⟩
        obtain rfl : s = true := hs.2 hI.out
        clear hs hin hI v1 v2 v2'
        replace kb := hid ((bb.block _ (Array.getElem?_eq_some_iff.1 kb.out).1).trans kb.out)
        replace kt := hid ((bb.block _ (Array.getElem?_eq_some_iff.1 kt.out).1).trans kt.out)
        replace kr := hid ((bb.block _ (Array.getElem?_eq_some_iff.1 kr.out).1).trans kr.out)
        replace hbw := hid (hbw.out.trans (bb.mono hbw.out.size))
        replace hTV := hid (hTV.out.below bb)
        clear bb b0 b1 b2 b3 c0 c1 c2 c3
        obtain ⟨⟨b0, b1, b2, b3⟩, _⟩ := blk4 kb.out
        obtain ⟨⟨c0, c1, c2, c3⟩, _⟩ := blk4 kt.out
        by_cases hk : key = 9223372036854775807
        · have v3 : (key == 9223372036854775807) = true := by simp [hk]
          have hdr : Hid (AdIs n m ts fi (en : Int) (an : Int) (bn : Int) key 1 ts) := hid (.inr ⟨hall.out, .inl ⟨hk, rfl, rfl⟩⟩)
          clear hk
          have hfin := hid (fin4 kr.out hbw.out (by omega) (hTV.out) (.int .i64 n) (.int .i64 m) (.slice fad F fcap))
          obtain ⟨⟨f1, f2, f3, f4⟩, _⟩ := blk4 kb.out
          obtain ⟨⟨f5, f6, f7, f8⟩, f9, f10, f11, f12⟩ := blk4 kr.out
          go_wp2_with fail
          refine bodyPost_ret (results_cell2 rfl _ _ (w.heap.size + 2) 32 _ (0, 0) _ rfl hfin.out.1 Tryz.underlying32 rfl (by kernel_rfl)) rfl ?_
          exact ⟨_, _, _, rfl, hdr.out, hfin.out.2.2, hfin.out.2.1⟩
        · have v3 : (key == 9223372036854775807) = false := by simp [hk]
          replace hk := hid hk
          go_wp2_with fail
          refine (hro.out an bn han.out hbn.out _ hbw.out).mono ?_
          rintro x w3 ⟨rv, s, rfl, hrd, bb⟩
          have hrf : ∃ ra rl rc, rv = .slice ra rl rc := by
            cases s with
            | false => exact ⟨_, _, _, hrd.2.2 rfl⟩
            | true =>
              obtain ⟨r, ls, _, _, h⟩ := hrd.2.1 rfl
              obtain ⟨ra, rc, h⟩ := h.form
              exact ⟨_, _, _, h⟩
          obtain ⟨ra, rl, rc, rfl⟩ := hrf
          replace hrd := hid hrd.1
          clear hro
          replace kb := hid ((bb.block _ (Array.getElem?_eq_some_iff.1 kb.out).1).trans kb.out)
          replace kt := hid ((bb.block _ (Array.getElem?_eq_some_iff.1 kt.out).1).trans kt.out)
          replace kr := hid ((bb.block _ (Array.getElem?_eq_some_iff.1 kr.out).1).trans kr.out)
          replace hbw := hid (hbw.out.trans (bb.mono hbw.out.size))
          replace hTV := hid (hTV.out.below bb)
          clear bb b0 b1 b2 b3 c0 c1 c2 c3
          obtain ⟨⟨b0, b1, b2, b3⟩, _⟩ := blk4 kb.out
          obtain ⟨⟨c0, c1, c2, c3⟩, _⟩ := blk4 kt.out
          cases s with
          | true =>
            have hdr : Hid (AdIs n m ts fi (en : Int) (an : Int) (bn : Int) key 20 ts) := hid (.inr ⟨hall.out, .inr (.inl ⟨hk.out, .inl (hrd.out.1 rfl), rfl, rfl⟩)⟩)
            clear hrd
            have hfin := hid (fin4 kr.out hbw.out (by omega) (hTV.out) (.int .i64 n) (.int .i64 m) (.slice fad F fcap))
            obtain ⟨⟨f1, f2, f3, f4⟩, _⟩ := blk4 kb.out
            obtain ⟨⟨f5, f6, f7, f8⟩, f9, f10, f11, f12⟩ := blk4 kr.out
            go_wp2_with fail
            refine bodyPost_ret (results_cell2 rfl _ _ (w.heap.size + 2) 32 _ (0, 0) _ rfl hfin.out.1 Tryz.underlying32 rfl (by kernel_rfl)) rfl ?_
            exact ⟨_, _, _, rfl, hdr.out, hfin.out.2.2, hfin.out.2.1⟩
          | false =>
            have hnl : Hid (¬ ∃ r ls, FR fi (tA ts) (tB ts) (· < ts.length) (fi an) (fi bn) r ls) := hid (fun q => by have := hrd.out.2 q; cases this)
            clear hrd v3
            go_wp2_with fail
            refine (hat.out _ _ hTV.out).mono ?_
            rintro x w4 ⟨i, rfl, hai, bb⟩
            clear hat
            replace kb := hid ((bb.block _ (Array.getElem?_eq_some_iff.1 kb.out).1).trans kb.out)
            replace kt := hid ((bb.block _ (Array.getElem?_eq_some_iff.1 kt.out).1).trans kt.out)
            replace kr := hid ((bb.block _ (Array.getElem?_eq_some_iff.1 kr.out).1).trans kr.out)
            replace hbw := hid (hbw.out.trans (bb.mono hbw.out.size))
            replace hTV := hid (hTV.out.below bb)
            clear bb b0 b1 b2 b3 c0 c1 c2 c3
            obtain ⟨⟨b0, b1, b2, b3⟩, _⟩ := blk4 kb.out
            obtain ⟨⟨c0, c1, c2, c3⟩, _⟩ := blk4 kt.out
            rcases hai with ⟨j, t, rfl, ht, hte, _⟩ | ⟨rfl, hno⟩
            · have v4 : decide ((j : Int) ≥ 0) = true := decide_eq_true (by omega)
              have v4' : decide (0 ≤ (j : Int)) = true := decide_eq_true (by omega)
              have hdr : Hid (AdIs n m ts fi (en : Int) (an : Int) (bn : Int) key 20 ts) := hid (.inr ⟨hall.out, .inr (.inl ⟨hk.out, .inr ⟨t, List.mem_of_getElem? ht, hte⟩, rfl, rfl⟩)⟩)
              clear ht hte
              have hfin := hid (fin4 kr.out hbw.out (by omega) (hTV.out) (.int .i64 n) (.int .i64 m) (.slice fad F fcap))
              obtain ⟨⟨f1, f2, f3, f4⟩, _⟩ := blk4 kb.out
              obtain ⟨⟨f5, f6, f7, f8⟩, f9, f10, f11, f12⟩ := blk4 kr.out
              go_wp2_with fail
              refine bodyPost_ret (results_cell2 rfl _ _ (w.heap.size + 2) 32 _ (0, 0) _ rfl hfin.out.1 Tryz.underlying32 rfl (by kernel_rfl)) rfl ?_
              exact ⟨_, _, _, rfl, hdr.out, hfin.out.2.2, hfin.out.2.1⟩
            · have v4 : decide ((-1 : Int) ≥ 0) = false := rfl
              have v4' : decide (0 ≤ (-1 : Int)) = false := rfl
              have hdr : Hid (AdIs n m ts fi (en : Int) (an : Int) (bn : Int) key 0 (ts ++ [⟨en, an, bn, key⟩])) := hid (.inr ⟨hall.out, .inr (.inr ⟨hk.out, hnl.out, hno, rfl, rfl⟩)⟩)
              have hlT : ts.length = T := hTl.out
              have hB : Hid (Below w4.heap.size w4 w4.drew) := hid (Below.refl _ _).drew
              have hkb := hid (fun y (hy : Below w4.heap.size w4 y) => (hy.block _ (Array.getElem?_eq_some_iff.1 kb.out).1).trans kb.out)
              have hkr := hid (fun y (hy : Below w4.heap.size w4 y) => (hy.block _ (Array.getElem?_eq_some_iff.1 kr.out).1).trans kr.out)
              have hkt := hid (fun y (hy : Below w4.heap.size w4 y) => (hy.block _ (Array.getElem?_eq_some_iff.1 kt.out).1).trans kt.out)
              have hSS : Hid (∀ y, Below w4.heap.size w4 y → y.cell? ⟨w.heap.size, 3, none⟩ = some (.slice tad T tcap) ∧ y.cell? ⟨w.heap.size + 1, 0, none⟩ = some (.int .i64 (en : Int)) ∧ y.cell? ⟨w.heap.size + 1, 1, none⟩ = some (.int .i64 (an : Int)) ∧ y.cell? ⟨w.heap.size + 1, 2, none⟩ = some (.int .i64 (bn : Int)) ∧ y.cell? ⟨w.heap.size + 1, 3, none⟩ = some (.int .i64 key)) := hid (fun y hy => ⟨(blk4 (hkb.out y hy)).1.2.2.2, (blk4 (hkt.out y hy)).1⟩)
              have hTx := hid (fun y (hy : Below w4.heap.size w4 y) => hTV.out.below hy)
              clear hno hnl hTV kb kr kt hkt
              go_upto_region 9 with fail
              clear b0 b1 b2 b3 c0 c1 c2 c3
              refine wp_region_noPanic ?_
              refine beginK (k := 8) (S := fun y => y.cell? ⟨w.heap.size, 3, none⟩ = some (.slice tad T tcap) ∧ y.cell? ⟨w.heap.size + 1, 0, none⟩ = some (.int .i64 (en : Int)) ∧ y.cell? ⟨w.heap.size + 1, 1, none⟩ = some (.int .i64 (an : Int)) ∧ y.cell? ⟨w.heap.size + 1, 2, none⟩ = some (.int .i64 (bn : Int)) ∧ y.cell? ⟨w.heap.size + 1, 3, none⟩ = some (.int .i64 key)) (by kernel_rfl) (hSS.out _ hB.out) (fun _ => ?_)
              generalize w4.drew = x0 at hB ⊢
              refine takeK (i := 0) (v := ?_) (a' := ?_) ({ dst := some 51, op := Op.move (Operand.tmp 8), type := 30, pos := "ref.go:118", after := #[], guard := none }) rfl (by kernel_rfl) (by kernel_rfl) (by kernel_rfl) (by kernel_rfl) (by kernel_rfl) (fun _ _ _ h => h) (by rfl) ?_ (hSS.out _ hB.out) ?_ ?_
              rotate_left 2
              · (intro w' hSw; obtain ⟨q0, q1, q2, q3, q4⟩ := hSw; go_simp; try with_reducible rfl)
              · (simp only [Act.put, List.setIfInBounds_toArray, List.set_cons_zero, List.set_cons_succ]; try rfl)
              refine takeK (i := 1) (v := ?_) (a' := ?_) ({ dst := some 52, op := Op.fieldAddr 32 (Operand.tmp 2) 3, type := 0, pos := "ref.go:118", after := #[], guard := none }) rfl (by kernel_rfl) (by kernel_rfl) (by kernel_rfl) (by kernel_rfl) (by kernel_rfl) (fun _ _ _ h => h) (by rfl) ?_ (hSS.out _ hB.out) ?_ ?_
              rotate_left 2
              · (intro w' hSw; obtain ⟨q0, q1, q2, q3, q4⟩ := hSw; go_simp; try with_reducible rfl)
              · (simp only [Act.put, List.setIfInBounds_toArray, List.set_cons_zero, List.set_cons_succ]; try rfl)
              refine takeK (i := 2) (v := ?_) (a' := ?_) ({ dst := some 53, op := Op.load 30 (Operand.tmp 52), type := 30, pos := "ref.go:118", after := #[{ on := 1, ground := Ground.data }], guard := none }) rfl (by kernel_rfl) (by kernel_rfl) (by kernel_rfl) (by kernel_rfl) (by kernel_rfl) (fun _ _ _ h => h) (by rfl) ?_ (hSS.out _ hB.out) ?_ ?_
              rotate_left 2
              · (intro w' hSw; obtain ⟨q0, q1, q2, q3, q4⟩ := hSw; go_simp; try with_reducible rfl)
              · (simp only [Act.put, List.setIfInBounds_toArray, List.set_cons_zero, List.set_cons_succ]; try rfl)
              refine takeK (i := 4) (v := ?_) (a' := ?_) ({ dst := some 55, op := Op.load 62 (Operand.tmp 3), type := 62, pos := "ref.go:118", after := #[], guard := none }) rfl (by kernel_rfl) (by kernel_rfl) (by kernel_rfl) (by kernel_rfl) (by kernel_rfl) (fun _ _ _ h => h) (by rfl) ?_ (hSS.out _ hB.out) ?_ ?_
              rotate_left 2
              · (intro w' hSw; obtain ⟨q0, q1, q2, q3, q4⟩ := hSw; go_simp; try with_reducible rfl)
              · (simp only [Act.put, List.setIfInBounds_toArray, List.set_cons_zero, List.set_cons_succ]; try rfl)
              refine readyK (rs := [3, 5]) (by kernel_rfl) (by simp) (fun i hi => ?_)
              simp only [List.mem_cons, List.not_mem_nil, or_false] at hi
              rcases hi with rfl | rfl
              · skip
                refine oneK (o := { dst := some 54, op := Op.call { callee := Callee.builtin Builtin.append, args := #[Operand.tmp 51, Operand.tmp 53], argTypes := #[30, 30] }, type := 30, pos := "ref.go:118", after := #[{ on := 0, ground := Ground.data }, { on := 2, ground := Ground.data }], guard := none }) rfl (fun K hK => ?_)
                refine step_ties rfl (.tmp 51) (.tmp 53) rfl w4.heap.size hB.out.size (.slice none 0 0) [] (by rfl) (World.ownsRow_nil _ _ _ _) (.slice tad T tcap) ts (by rfl) (hTx.out _ hB.out) (by simp; omega) ?_
                intro v1 xw hOwn hgrow
                have hBx : Below (World.heap (x0)).size (x0) xw := (Below.refl _ _).grown hgrow (Nat.le_refl _) (fun k hk => by cases hk)
                rw [List.nil_append] at hOwn
                replace hOwn := hid hOwn
                replace hB := hid (hB.out.trans (hBx.mono hB.out.size))
                clear hgrow hBx
                refine hK.out _ _ (.inr (hSS.out _ hB.out)) ?_
                clear hK K
                try simp only [Act.put, List.setIfInBounds_toArray, List.set_cons_zero, List.set_cons_succ]
                refine readyK (rs := [5]) (by kernel_rfl) (by simp) (fun i hi => ?_)
                simp only [List.mem_cons, List.not_mem_nil, or_false] at hi
                subst hi
                refine oneK (o := { dst := some 56, op := Op.buildSlice 30 1 #[(0, Operand.tmp 55)], type := 30, pos := "ref.go:118", after := #[{ on := 4, ground := Ground.data }], guard := none }) rfl (fun K hK => ?_)
                go_simp
                refine hK.out _ _ (.inr (hSS.out _ (hB.out.alloc hB.out.size (.cells #[.int .i64 (en : Int), .int .i64 (an : Int), .int .i64 (bn : Int), .int .i64 key] 62)))) ?_
                clear hK K
                try simp only [Act.put, List.setIfInBounds_toArray, List.set_cons_zero, List.set_cons_succ]
                have hLit := hid (tv_lit (xw) ⟨en, an, bn, key⟩)
                replace hOwn := hid (hOwn.out.alloc (.cells #[.int .i64 (en : Int), .int .i64 (an : Int), .int .i64 (bn : Int), .int .i64 key] 62))
                replace hB := hid (hB.out.alloc hB.out.size (.cells #[.int .i64 (en : Int), .int .i64 (an : Int), .int .i64 (bn : Int), .int .i64 key] 62))
                generalize (xw).alloc (.cells #[.int .i64 (en : Int), .int .i64 (an : Int), .int .i64 (bn : Int), .int .i64 key] 62) = xl at hLit hB hOwn ⊢
                refine readyK (rs := [6]) (by kernel_rfl) (by simp) (fun i hi => ?_)
                simp only [List.mem_cons, List.not_mem_nil, or_false] at hi
                subst hi
                refine oneK (o := { dst := some 57, op := Op.call { callee := Callee.builtin Builtin.append, args := #[Operand.tmp 54, Operand.tmp 56], argTypes := #[30, 30] }, type := 30, pos := "ref.go:118", after := #[{ on := 3, ground := Ground.data }, { on := 5, ground := Ground.data }, { on := 3, ground := Ground.chain }], guard := none }) rfl (fun K hK => ?_)
                refine step_ties rfl (.tmp 54) (.tmp 56) rfl w4.heap.size hB.out.size v1 ts (by rfl) hOwn.out _ [⟨en, an, bn, key⟩] (by rfl) hLit.out (by simp; omega) ?_
                intro v2 xv hOwn2 hgrow2
                have hB2 := hid (below_grown hB.out (Nat.le_refl _) hOwn.out (Nat.le_refl _) hgrow2)
                have hTv := hid (tv_own hOwn2)
                clear hOwn2 hgrow2 hOwn hB hLit
                refine hK.out _ _ (.inr (hSS.out _ hB2.out)) ?_
                clear hK K
                try simp only [Act.put, List.setIfInBounds_toArray, List.set_cons_zero, List.set_cons_succ]
                have hB := hB2
                refine takeK (i := 7) (v := ?_) (a' := ?_) ({ dst := some 58, op := Op.fieldAddr 32 (Operand.tmp 2) 3, type := 0, pos := "ref.go:118", after := #[{ on := 0, ground := Ground.phase }, { on := 1, ground := Ground.phase }, { on := 2, ground := Ground.phase }, { on := 3, ground := Ground.phase }, { on := 4, ground := Ground.phase }, { on := 5, ground := Ground.phase }, { on := 6, ground := Ground.phase }], guard := none }) rfl (by kernel_rfl) (by kernel_rfl) (by kernel_rfl) (by kernel_rfl) (by kernel_rfl) (fun _ _ _ h => h) (by rfl) ?_ (hSS.out _ hB.out) ?_ ?_
                rotate_left 2
                · (intro w' hSw; obtain ⟨q0, q1, q2, q3, q4⟩ := hSw; go_simp; try with_reducible rfl)
                · (simp only [Act.put, List.setIfInBounds_toArray, List.set_cons_zero, List.set_cons_succ]; try rfl)
                clear hB hSS hTx
                refine readyK (rs := [8]) (by kernel_rfl) (by simp) (fun i hi => ?_)
                simp only [List.mem_cons, List.not_mem_nil, or_false] at hi
                subst hi
                refine oneK (o := { dst := none, op := Op.store 30 (Operand.tmp 58) (Operand.tmp 57), type := 0, pos := "ref.go:118", after := #[{ on := 7, ground := Ground.data }, { on := 6, ground := Ground.data }, { on := 6, ground := Ground.chain }, { on := 0, ground := Ground.phase }, { on := 1, ground := Ground.phase }, { on := 2, ground := Ground.phase }, { on := 3, ground := Ground.phase }, { on := 4, ground := Ground.phase }, { on := 5, ground := Ground.phase }, { on := 6, ground := Ground.phase }], guard := none }) rfl (fun K hK => ?_)
                have kb := hid (hkb.out _ hB2.out)
                have kr := hid (hkr.out _ hB2.out)
                obtain ⟨va, vc, hvf⟩ := hTv.out.form
                obtain ⟨vl, hvl⟩ : ∃ vl, (ts ++ [(⟨en, an, bn, key⟩ : Ti)]).length = vl := ⟨_, rfl⟩
                rw [hvl] at hvf
                clear hvl
                subst hvf
                obtain ⟨⟨_, _, _, m0⟩, _, _, _, m1⟩ := blk4 kb.out
                have kb2 := hid (set3_block kb.out (.slice va vl vc))
                have kr2 : Hid ((xv.setCell ⟨w.heap.size, 3, none⟩ (.slice va vl vc)).heap[w.heap.size + 2]? = _) := hid ((Below.heap_setCell _ _ _ _ (by show w.heap.size + 2 ≠ w.heap.size; omega)).trans kr.out)
                have hT3 := hid (hTv.out.kt (kt_set kb.out (by decide) 3 (.slice va vl vc)))
                have hb3 := hid ((hbw.out.trans (hB2.out.mono hbw.out.size)).setCell (p := ⟨w.heap.size, 3, none⟩) (Nat.le_refl _) (.slice va vl vc))
                go_simp
                refine hK.out _ _ (.inl rfl) ?_
                clear hK K
                try simp only [Act.put, List.setIfInBounds_toArray, List.set_cons_zero, List.set_cons_succ]
                refine doneK (by kernel_rfl) ?_ _
                refine NoPanic.normal ?_
                clear m0 m1 hTv hB2 hkb hkr kb kr
                generalize xv.setCell ⟨w.heap.size, 3, none⟩ (.slice va vl vc) = wz at kb2 kr2 hT3 hb3 ⊢
                have hfin := hid (fin4 kr2.out hb3.out (by omega) (hT3.out) (.int .i64 n) (.int .i64 m) (.slice fad F fcap))
                obtain ⟨⟨f1, f2, f3, f4⟩, _⟩ := blk4 kb2.out
                obtain ⟨⟨f5, f6, f7, f8⟩, f9, f10, f11, f12⟩ := blk4 kr2.out
                go_wp2_with fail
                refine bodyPost_ret (results_cell2 rfl _ _ (w.heap.size + 2) 32 _ (0, 0) _ rfl hfin.out.1 Tryz.underlying32 rfl (by kernel_rfl)) rfl ?_
                exact ⟨_, _, _, rfl, hdr.out, hfin.out.2.2, hfin.out.2.1⟩
              · skip
                refine oneK (o := { dst := some 56, op := Op.buildSlice 30 1 #[(0, Operand.tmp 55)], type := 30, pos := "ref.go:118", after := #[{ on := 4, ground := Ground.data }], guard := none }) rfl (fun K hK => ?_)
                go_simp
                refine hK.out _ _ (.inr (hSS.out _ (hB.out.alloc hB.out.size (.cells #[.int .i64 (en : Int), .int .i64 (an : Int), .int .i64 (bn : Int), .int .i64 key] 62)))) ?_
                clear hK K
                try simp only [Act.put, List.setIfInBounds_toArray, List.set_cons_zero, List.set_cons_succ]
                have hLit := hid (tv_lit (x0) ⟨en, an, bn, key⟩)
                replace hB := hid (hB.out.alloc hB.out.size (.cells #[.int .i64 (en : Int), .int .i64 (an : Int), .int .i64 (bn : Int), .int .i64 key] 62))
                generalize (x0).alloc (.cells #[.int .i64 (en : Int), .int .i64 (an : Int), .int .i64 (bn : Int), .int .i64 key] 62) = xl at hLit hB ⊢
                refine readyK (rs := [3]) (by kernel_rfl) (by simp) (fun i hi => ?_)
                simp only [List.mem_cons, List.not_mem_nil, or_false] at hi
                subst hi
                refine oneK (o := { dst := some 54, op := Op.call { callee := Callee.builtin Builtin.append, args := #[Operand.tmp 51, Operand.tmp 53], argTypes := #[30, 30] }, type := 30, pos := "ref.go:118", after := #[{ on := 0, ground := Ground.data }, { on := 2, ground := Ground.data }], guard := none }) rfl (fun K hK => ?_)
                refine step_ties rfl (.tmp 51) (.tmp 53) rfl w4.heap.size hB.out.size (.slice none 0 0) [] (by rfl) (World.ownsRow_nil _ _ _ _) (.slice tad T tcap) ts (by rfl) (hTx.out _ hB.out) (by simp; omega) ?_
                intro v1 xw hOwn hgrow
                have hBx : Below (World.heap (xl)).size (xl) xw := (Below.refl _ _).grown hgrow (Nat.le_refl _) (fun k hk => by cases hk)
                rw [List.nil_append] at hOwn
                replace hOwn := hid hOwn
                replace hLit := hid (hLit.out.below hBx)
                replace hB := hid (hB.out.trans (hBx.mono hB.out.size))
                clear hgrow hBx
                refine hK.out _ _ (.inr (hSS.out _ hB.out)) ?_
                clear hK K
                try simp only [Act.put, List.setIfInBounds_toArray, List.set_cons_zero, List.set_cons_succ]
                refine readyK (rs := [6]) (by kernel_rfl) (by simp) (fun i hi => ?_)
                simp only [List.mem_cons, List.not_mem_nil, or_false] at hi
                subst hi
                refine oneK (o := { dst := some 57, op := Op.call { callee := Callee.builtin Builtin.append, args := #[Operand.tmp 54, Operand.tmp 56], argTypes := #[30, 30] }, type := 30, pos := "ref.go:118", after := #[{ on := 3, ground := Ground.data }, { on := 5, ground := Ground.data }, { on := 3, ground := Ground.chain }], guard := none }) rfl (fun K hK => ?_)
                refine step_ties rfl (.tmp 54) (.tmp 56) rfl w4.heap.size hB.out.size v1 ts (by rfl) hOwn.out _ [⟨en, an, bn, key⟩] (by rfl) hLit.out (by simp; omega) ?_
                intro v2 xv hOwn2 hgrow2
                have hB2 := hid (below_grown hB.out (Nat.le_refl _) hOwn.out (Nat.le_refl _) hgrow2)
                have hTv := hid (tv_own hOwn2)
                clear hOwn2 hgrow2 hOwn hB hLit
                refine hK.out _ _ (.inr (hSS.out _ hB2.out)) ?_
                clear hK K
                try simp only [Act.put, List.setIfInBounds_toArray, List.set_cons_zero, List.set_cons_succ]
                have hB := hB2
                refine takeK (i := 7) (v := ?_) (a' := ?_) ({ dst := some 58, op := Op.fieldAddr 32 (Operand.tmp 2) 3, type := 0, pos := "ref.go:118", after := #[{ on := 0, ground := Ground.phase }, { on := 1, ground := Ground.phase }, { on := 2, ground := Ground.phase }, { on := 3, ground := Ground.phase }, { on := 4, ground := Ground.phase }, { on := 5, ground := Ground.phase }, { on := 6, ground := Ground.phase }], guard := none }) rfl (by kernel_rfl) (by kernel_rfl) (by kernel_rfl) (by kernel_rfl) (by kernel_rfl) (fun _ _ _ h => h) (by rfl) ?_ (hSS.out _ hB.out) ?_ ?_
                rotate_left 2
                · (intro w' hSw; obtain ⟨q0, q1, q2, q3, q4⟩ := hSw; go_simp; try with_reducible rfl)
                · (simp only [Act.put, List.setIfInBounds_toArray, List.set_cons_zero, List.set_cons_succ]; try rfl)
                clear hB hSS hTx
                refine readyK (rs := [8]) (by kernel_rfl) (by simp) (fun i hi => ?_)
                simp only [List.mem_cons, List.not_mem_nil, or_false] at hi
                subst hi
                refine oneK (o := { dst := none, op := Op.store 30 (Operand.tmp 58) (Operand.tmp 57), type := 0, pos := "ref.go:118", after := #[{ on := 7, ground := Ground.data }, { on := 6, ground := Ground.data }, { on := 6, ground := Ground.chain }, { on := 0, ground := Ground.phase }, { on := 1, ground := Ground.phase }, { on := 2, ground := Ground.phase }, { on := 3, ground := Ground.phase }, { on := 4, ground := Ground.phase }, { on := 5, ground := Ground.phase }, { on := 6, ground := Ground.phase }], guard := none }) rfl (fun K hK => ?_)
                have kb := hid (hkb.out _ hB2.out)
                have kr := hid (hkr.out _ hB2.out)
                obtain ⟨va, vc, hvf⟩ := hTv.out.form
                obtain ⟨vl, hvl⟩ : ∃ vl, (ts ++ [(⟨en, an, bn, key⟩ : Ti)]).length = vl := ⟨_, rfl⟩
                rw [hvl] at hvf
                clear hvl
                subst hvf
                obtain ⟨⟨_, _, _, m0⟩, _, _, _, m1⟩ := blk4 kb.out
                have kb2 := hid (set3_block kb.out (.slice va vl vc))
                have kr2 : Hid ((xv.setCell ⟨w.heap.size, 3, none⟩ (.slice va vl vc)).heap[w.heap.size + 2]? = _) := hid ((Below.heap_setCell _ _ _ _ (by show w.heap.size + 2 ≠ w.heap.size; omega)).trans kr.out)
                have hT3 := hid (hTv.out.kt (kt_set kb.out (by decide) 3 (.slice va vl vc)))
                have hb3 := hid ((hbw.out.trans (hB2.out.mono hbw.out.size)).setCell (p := ⟨w.heap.size, 3, none⟩) (Nat.le_refl _) (.slice va vl vc))
                go_simp
                refine hK.out _ _ (.inl rfl) ?_
                clear hK K
                try simp only [Act.put, List.setIfInBounds_toArray, List.set_cons_zero, List.set_cons_succ]
                refine doneK (by kernel_rfl) ?_ _
                refine NoPanic.normal ?_
                clear m0 m1 hTv hB2 hkb hkr kb kr
                generalize xv.setCell ⟨w.heap.size, 3, none⟩ (.slice va vl vc) = wz at kb2 kr2 hT3 hb3 ⊢
                have hfin := hid (fin4 kr2.out hb3.out (by omega) (hT3.out) (.int .i64 n) (.int .i64 m) (.slice fad F fcap))
                obtain ⟨⟨f1, f2, f3, f4⟩, _⟩ := blk4 kb2.out
                obtain ⟨⟨f5, f6, f7, f8⟩, f9, f10, f11, f12⟩ := blk4 kr2.out
                go_wp2_with fail
                refine bodyPost_ret (results_cell2 rfl _ _ (w.heap.size + 2) 32 _ (0, 0) _ rfl hfin.out.1 Tryz.underlying32 rfl (by kernel_rfl)) rfl ?_
                exact ⟨_, _, _, rfl, hdr.out, hfin.out.2.2, hfin.out.2.1⟩
      · have hdr : Hid (AdIs n m ts fi e a b key 12 ts) := hid (.inl ⟨fun q => hI q.2.2, rfl, rfl⟩)
        replace hI := hid hI
        clear h1 h2
        obtain ⟨w1, hw1⟩ : ∃ w1, ((w.alloc (.cells #[.int .i64 n, .int .i64 m, .slice fad F fcap, .slice tad T tcap] 32)).alloc (.cells #[.int .i64 e, .int .i64 a, .int .i64 b, .int .i64 key] 62)).alloc (.cells #[.int .i64 0, .int .i64 0, .slice none 0 0, .slice none 0 0] 32) = w1 := ⟨_, rfl⟩
        have kb : Hid (w1.heap[w.heap.size]? = some (.cells #[.int .i64 n, .int .i64 m, .slice fad F fcap, .slice tad T tcap] 32 (0, 0))) := by
          rw [← hw1]
          exact hid (((balloc _ _).block _ (by simp; omega)).trans (((balloc _ _).block _ (by simp)).trans (heap_alloc_new w _)))
        have kt : Hid (w1.heap[w.heap.size + 1]? = some (.cells #[.int .i64 e, .int .i64 a, .int .i64 b, .int .i64 key] 62 (0, 0))) := by
          rw [← hw1]
          have := heap_alloc_new (w.alloc (.cells #[.int .i64 n, .int .i64 m, .slice fad F fcap, .slice tad T tcap] 32)) (.cells #[.int .i64 e, .int .i64 a, .int .i64 b, .int .i64 key] 62)
          rw [show (w.alloc (.cells #[.int .i64 n, .int .i64 m, .slice fad F fcap, .slice tad T tcap] 32)).heap.size = w.heap.size + 1 from by simp] at this
          exact hid (((balloc _ _).block _ (by simp)).trans this)
        have kr : Hid (w1.heap[w.heap.size + 2]? = some (.cells #[.int .i64 0, .int .i64 0, .slice none 0 0, .slice none 0 0] 32 (0, 0))) := by
          rw [← hw1]
          have := heap_alloc_new ((w.alloc (.cells #[.int .i64 n, .int .i64 m, .slice fad F fcap, .slice tad T tcap] 32)).alloc (.cells #[.int .i64 e, .int .i64 a, .int .i64 b, .int .i64 key] 62)) (.cells #[.int .i64 0, .int .i64 0, .slice none 0 0, .slice none 0 0] 32)
          rw [show ((w.alloc (.cells #[.int .i64 n, .int .i64 m, .slice fad F fcap, .slice tad T tcap] 32)).alloc (.cells #[.int .i64 e, .int .i64 a, .int .i64 b, .int .i64 key] 62)).heap.size = w.heap.size + 2 from by simp] at this
          exact hid this
        have hbw : Hid (Below w.heap.size w w1) := by
          rw [← hw1]
          exact hid (((balloc w _).trans ((balloc _ _).mono (by simp))).trans ((balloc _ _).mono (by simp; omega)))
        have hTV := hid (hT0.out.below hbw.out)
        replace hw1 := hid hw1
        obtain ⟨⟨b0, b1, b2, b3⟩, _⟩ := blk4 kb.out
        obtain ⟨⟨c0, c1, c2, c3⟩, _⟩ := blk4 kt.out
        go_enter Tryz.func34, Tryz.ntmps34
        go_upto_region 1 with fail
        rw [hw1.out]
        clear hw1
        go_wp2_with fail
        refine (hin.out _ _ _).mono ?_
        rintro x w2 ⟨v, rfl, ⟨s, rfl, hs⟩, bb⟩
        obtain rfl : s = false := by
          cases s with
          | false => rfl
          | true => exact absurd (hs.1 rfl) hI.out
        clear hs hin hI v1 v2 v2'
        replace kb := hid ((bb.block _ (Array.getElem?_eq_some_iff.1 kb.out).1).trans kb.out)
        replace kt := hid ((bb.block _ (Array.getElem?_eq_some_iff.1 kt.out).1).trans kt.out)
        replace kr := hid ((bb.block _ (Array.getElem?_eq_some_iff.1 kr.out).1).trans kr.out)
        replace hbw := hid (hbw.out.trans (bb.mono hbw.out.size))
        replace hTV := hid (hTV.out.below bb)
        clear bb b0 b1 b2 b3 c0 c1 c2 c3
        obtain ⟨⟨b0, b1, b2, b3⟩, _⟩ := blk4 kb.out
        obtain ⟨⟨c0, c1, c2, c3⟩, _⟩ := blk4 kt.out
        have hfin := hid (fin4 kr.out hbw.out (by omega) (hTV.out) (.int .i64 n) (.int .i64 m) (.slice fad F fcap))
        obtain ⟨⟨f1, f2, f3, f4⟩, _⟩ := blk4 kb.out
        obtain ⟨⟨f5, f6, f7, f8⟩, f9, f10, f11, f12⟩ := blk4 kr.out
        go_wp2_with fail
        refine bodyPost_ret (results_cell2 rfl _ _ (w.heap.size + 2) 32 _ (0, 0) _ rfl hfin.out.1 Tryz.underlying32 rfl (by kernel_rfl)) rfl ?_
        exact ⟨_, _, _, rfl, hdr.out, hfin.out.2.2, hfin.out.2.1⟩
    · have v2 : decide (e ≥ m) = true := decide_eq_true (by omega)
      have v2' : decide (m ≤ e) = true := decide_eq_true (by omega)
      have hdr : Hid (AdIs n m ts fi e a b key 12 ts) := hid (.inl ⟨fun q => by have := q.2.1; omega, rfl, rfl⟩)
      clear h1 h2
      obtain ⟨w1, hw1⟩ : ∃ w1, ((w.alloc (.cells #[.int .i64 n, .int .i64 m, .slice fad F fcap, .slice tad T tcap] 32)).alloc (.cells #[.int .i64 e, .int .i64 a, .int .i64 b, .int .i64 key] 62)).alloc (.cells #[.int .i64 0, .int .i64 0, .slice none 0 0, .slice none 0 0] 32) = w1 := ⟨_, rfl⟩
      have kb : Hid (w1.heap[w.heap.size]? = some (.cells #[.int .i64 n, .int .i64 m, .slice fad F fcap, .slice tad T tcap] 32 (0, 0))) := by
        rw [← hw1]
        exact hid (((balloc _ _).block _ (by simp; omega)).trans (((balloc _ _).block _ (by simp)).trans (heap_alloc_new w _)))
      have kt : Hid (w1.heap[w.heap.size + 1]? = some (.cells #[.int .i64 e, .int .i64 a, .int .i64 b, .int .i64 key] 62 (0, 0))) := by
        rw [← hw1]
        have := heap_alloc_new (w.alloc (.cells #[.int .i64 n, .int .i64 m, .slice fad F fcap, .slice tad T tcap] 32)) (.cells #[.int .i64 e, .int .i64 a, .int .i64 b, .int .i64 key] 62)
        rw [show (w.alloc (.cells #[.int .i64 n, .int .i64 m, .slice fad F fcap, .slice tad T tcap] 32)).heap.size = w.heap.size + 1 from by simp] at this
        exact hid (((balloc _ _).block _ (by simp)).trans this)
      have kr : Hid (w1.heap[w.heap.size + 2]? = some (.cells #[.int .i64 0, .int .i64 0, .slice none 0 0, .slice none 0 0] 32 (0, 0))) := by
        rw [← hw1]
        have := heap_alloc_new ((w.alloc (.cells #[.int .i64 n, .int .i64 m, .slice fad F fcap, .slice tad T tcap] 32)).alloc (.cells #[.int .i64 e, .int .i64 a, .int .i64 b, .int .i64 key] 62)) (.cells #[.int .i64 0, .int .i64 0, .slice none 0 0, .slice none 0 0] 32)
        rw [show ((w.alloc (.cells #[.int .i64 n, .int .i64 m, .slice fad F fcap, .slice tad T tcap] 32)).alloc (.cells #[.int .i64 e, .int .i64 a, .int .i64 b, .int .i64 key] 62)).heap.size = w.heap.size + 2 from by simp] at this
        exact hid this
      have hbw : Hid (Below w.heap.size w w1) := by
        rw [← hw1]
        exact hid (((balloc w _).trans ((balloc _ _).mono (by simp))).trans ((balloc _ _).mono (by simp; omega)))
      have hTV := hid (hT0.out.below hbw.out)
      replace hw1 := hid hw1
      obtain ⟨⟨b0, b1, b2, b3⟩, _⟩ := blk4 kb.out
      obtain ⟨⟨c0, c1, c2, c3⟩, _⟩ := blk4 kt.out
      go_enter Tryz.func34, Tryz.ntmps34
      go_upto_region 1 with fail
      rw [hw1.out]
      clear hw1
      have hfin := hid (fin4 kr.out hbw.out (by omega) (hTV.out) (.int .i64 n) (.int .i64 m) (.slice fad F fcap))
      obtain ⟨⟨f1, f2, f3, f4⟩, _⟩ := blk4 kb.out
      obtain ⟨⟨f5, f6, f7, f8⟩, f9, f10, f11, f12⟩ := blk4 kr.out
      go_wp2_with fail
      refine bodyPost_ret (results_cell2 rfl _ _ (w.heap.size + 2) 32 _ (0, 0) _ rfl hfin.out.1 Tryz.underlying32 rfl (by kernel_rfl)) rfl ?_
      exact ⟨_, _, _, rfl, hdr.out, hfin.out.2.2, hfin.out.2.1⟩
end Go.Proofs.YtdmkbcbgjdmgdaaGreatDoor.Wd
