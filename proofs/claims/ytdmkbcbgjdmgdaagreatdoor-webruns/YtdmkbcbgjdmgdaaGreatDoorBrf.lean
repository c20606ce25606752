/- The document's Split, Apart, Merge of a web, walked, over any contract of the faces' own. The document's New of a web, walked, over any contract of the faces' own. -/
import Derived.Test.YtdmkbcbgjdmgdaaGreatDoorRRoad14
import Derived.Test.YtdmkbcbgjdmgdaaGreatDoorRDrop14
namespace Go.Proofs.YtdmkbcbgjdmgdaaGreatDoor.Wd
open Go.RowKit
set_option linter.unusedVariables false

/-- Blocks that are no web's stay. -/
def Kw (w w' : World) : Prop := ∀ b, b < w.heap.size → ¬ Ty w b 32 → w'.heap[b]? = w.heap[b]?
theorem Kw.trans {a b c : World} (h : Kw a b) (hs : a.heap.size ≤ b.heap.size) (k : Kw b c) : Kw a c := fun x hx hn => by
  rw [k x (by omega) (fun ⟨cs, fr, q⟩ => hn ⟨cs, fr, by rw [← h x hx hn]; exact q⟩), h x hx hn]
theorem kw_set {w : World} {g : Nat} {cs : Array Value} {fr : Nat × Nat} (h : w.heap[g]? = some (.cells cs 32 fr)) (k : Nat) (v : Value) : Kw w (w.setCell ⟨g, k, none⟩ v) := fun b hb hn =>
  Below.heap_setCell _ _ _ _ (fun e => by
    have e' : b = g := e
    subst e'
    exact hn ⟨_, _, h⟩)
theorem kw4 {w : World} {g : Nat} {u v x y : Value} (h : w.heap[g]? = some (.cells #[u, v, x, y] 32 (0, 0))) (a b c d : Value) : Kw w ((((w.setCell ⟨g, 0, none⟩ a).setCell ⟨g, 1, none⟩ b).setCell ⟨g, 2, none⟩ c).setCell ⟨g, 3, none⟩ d) := fun k hk hn => by
  have hne : k ≠ g := fun e => by
    subst e
    exact hn ⟨_, _, h⟩
  rw [Below.heap_setCell _ _ _ _ hne, Below.heap_setCell _ _ _ _ hne, Below.heap_setCell _ _ _ _ hne, Below.heap_setCell _ _ _ _ hne]
theorem set2c_block {w : World} {g : Nat} {t : TypeId} {u v x y : Value} (h : w.heap[g]? = some (.cells #[u, v, x, y] t (0, 0))) (d : Value) : (w.setCell ⟨g, 2, none⟩ d).heap[g]? = some (.cells #[u, v, d, y] t (0, 0)) := by
  unfold World.setCell
  rw [Array.getElem?_modify, if_pos rfl, h]
  simp

/-- The two items' faces are linked. -/
def Lnk (ts : List Ti) (fi : Nat → Nat) (a b : Int) : Prop := ∃ r ls, FR fi (tA ts) (tB ts) (· < ts.length) (fi a.toNat) (fi b.toNat) r ls

set_option maxRecDepth 100000 in
set_option maxHeartbeats 4000000 in
theorem rsplit14_ok (n m : Int) (fad : Option Addr) (F fcap : Nat) (tv : Value) (ts : List Ti) (a b : Int) (w : World) (hT : TV w tv ts) (P : World → Value → Int → Prop) (hPk : ∀ y y' v er, Kw y y' → P y v er → P y' v er)
    (hP : InW n a b → ∀ y, Below w.heap.size w y → Calls Tryz.prog 64 #[.slice fad F fcap, .int .i64 a, .int .i64 b] y fun e w' => ∃ ga gl gc er, e = .returned (.tuple #[.slice ga gl gc, .int .i64 er]) ∧ P w' (.slice ga gl gc) er ∧ Below y.heap.size y w') :
    Calls Tryz.prog 32 #[.agg #[.int .i64 n, .int .i64 m, .slice fad F fcap, tv], .int .i64 a, .int .i64 b] w fun x w' => ∃ fv er, x = .returned (.tuple #[.agg #[.int .i64 n, .int .i64 m, fv, tv], .int .i64 er]) ∧ ((¬ InW n a b ∧ er = 12 ∧ fv = .slice fad F fcap) ∨ (InW n a b ∧ P w' fv er)) ∧ TV w' tv ts ∧ Below w.heap.size w w' := by
  have hT0 := hid hT
  obtain ⟨tad, tcap, rfl⟩ := hT.form
  have hin := hid (fun a b y => rin14_ok n m fad tad F fcap ts.length tcap a b y)
  obtain ⟨T, hTl⟩ : ∃ T, ts.length = T := ⟨_, rfl⟩
  rw [hTl] at hT0 hin ⊢
  replace hTl := hid hTl
  obtain ⟨w1, hw1⟩ : ∃ w1, (w.alloc (.cells #[.int .i64 n, .int .i64 m, .slice fad F fcap, .slice tad T tcap] 32)).alloc (.cells #[.int .i64 0, .int .i64 0, .slice none 0 0, .slice none 0 0] 32) = w1 := ⟨_, rfl⟩
  have kb : Hid (w1.heap[w.heap.size]? = some (.cells #[.int .i64 n, .int .i64 m, .slice fad F fcap, .slice tad T tcap] 32 (0, 0))) := by
    rw [← hw1]
    exact hid (((balloc _ _).block _ (by simp)).trans (heap_alloc_new w _))
  have kr : Hid (w1.heap[w.heap.size + 1]? = some (.cells #[.int .i64 0, .int .i64 0, .slice none 0 0, .slice none 0 0] 32 (0, 0))) := by
    rw [← hw1]
    have := heap_alloc_new (w.alloc (.cells #[.int .i64 n, .int .i64 m, .slice fad F fcap, .slice tad T tcap] 32)) (.cells #[.int .i64 0, .int .i64 0, .slice none 0 0, .slice none 0 0] 32)
    rw [show (w.alloc (.cells #[.int .i64 n, .int .i64 m, .slice fad F fcap, .slice tad T tcap] 32)).heap.size = w.heap.size + 1 from by simp] at this
    exact hid this
  have hbw : Hid (Below w.heap.size w w1) := by rw [← hw1]; exact hid ((balloc w _).trans ((balloc _ _).mono (balloc w _).size))
  have hTV := hid (hT0.out.below hbw.out)
  replace hw1 := hid hw1
  replace hP := hid hP
  replace hPk := hid hPk
  clear hT hT0
  obtain ⟨⟨b0, b1, b2, b3⟩, _⟩ := blk4 kb.out
  go_enter Tryz.func32, Tryz.ntmps32
  go_upto_region 1 with fail
  rw [hw1.out]
  clear hw1
  go_wp2_with fail
  refine (hin.out _ _ _).mono ?_
  rintro x w2 ⟨v, rfl, ⟨s, rfl, hs⟩, bb⟩
  clear hin
  replace kb := hid ((bb.block _ (Array.getElem?_eq_some_iff.1 kb.out).1).trans kb.out)
  replace kr := hid ((bb.block _ (Array.getElem?_eq_some_iff.1 kr.out).1).trans kr.out)
  replace hbw := hid (hbw.out.trans (bb.mono hbw.out.size))
  replace hTV := hid (hTV.out.below bb)
  clear bb b0 b1 b2 b3
  obtain ⟨⟨b0, b1, b2, b3⟩, _⟩ := blk4 kb.out
  cases s with
  | false =>
    have hdr : Hid (¬ InW n a b) := hid (fun q => by have := hs.2 q; cases this)
    clear hs
    have hfin := hid (fin4 kr.out hbw.out (by omega) (hTV.out) (.int .i64 n) (.int .i64 m) (.slice fad F fcap))
    obtain ⟨⟨f5, f6, f7, f8⟩, f9, f10, f11, f12⟩ := blk4 kr.out
    go_wp2_with fail
    refine bodyPost_ret (results_cell2 rfl _ _ (w.heap.size + 1) 32 _ (0, 0) _ rfl hfin.out.1 Tryz.underlying32 rfl (by kernel_rfl)) rfl ?_
    exact ⟨_, _, rfl, .inl ⟨hdr.out, rfl, rfl⟩, hfin.out.2.2, hfin.out.2.1⟩
  | true =>
    have hI := hid (hs.1 rfl)
    clear hs
    go_wp2_with fail
    refine (hP.out hI.out _ hbw.out).mono ?_
    rintro x w9 ⟨ga, gl, gc, er, rfl, hp, bb⟩
    replace hp := hid hp
    clear hP
    replace kb := hid ((bb.block _ (Array.getElem?_eq_some_iff.1 kb.out).1).trans kb.out)
    replace kr := hid ((bb.block _ (Array.getElem?_eq_some_iff.1 kr.out).1).trans kr.out)
    replace hbw := hid (hbw.out.trans (bb.mono hbw.out.size))
    replace hTV := hid (hTV.out.below bb)
    clear bb b0 b1 b2 b3
    obtain ⟨⟨b0, b1, b2, b3⟩, _⟩ := blk4 kb.out
    obtain ⟨_, m0, m1, m2, m3⟩ := blk4 kb.out
    have kb2 := hid (set2c_block kb.out (.slice ga gl gc))
    have kr2 : Hid ((w9.setCell ⟨w.heap.size, 2, none⟩ (.slice ga gl gc)).heap[w.heap.size + 1]? = _) := hid ((Below.heap_setCell _ _ _ _ (by show w.heap.size + 1 ≠ w.heap.size; omega)).trans kr.out)
    have hT3 := hid (hTV.out.kt (kt_set kb.out (by decide) 2 (.slice ga gl gc)))
    have hb3 := hid (hbw.out.setCell (p := ⟨w.heap.size, 2, none⟩) (Nat.le_refl _) (.slice ga gl gc))
    have hp3 := hid (hPk.out _ _ _ _ (kw_set kb.out 2 (.slice ga gl gc)) hp.out)
    go_upto_region 5 with fail
    clear m0 m1 m2 m3 b0 b1 b2 b3 kb kr hp hTV hbw
    generalize w9.setCell ⟨w.heap.size, 2, none⟩ (.slice ga gl gc) = wz at kb2 kr2 hT3 hb3 hp3 ⊢
    have hfin := hid (fin4 kr2.out hb3.out (by omega) (hT3.out) (.int .i64 n) (.int .i64 m) (.slice ga gl gc))
    have hp4 := hid (hPk.out _ _ _ _ (kw4 kr2.out (.int .i64 n) (.int .i64 m) (.slice ga gl gc) (.slice tad T tcap)) hp3.out)
    obtain ⟨⟨f1, f2, f3, f4⟩, _⟩ := blk4 kb2.out
    obtain ⟨⟨f5, f6, f7, f8⟩, f9, f10, f11, f12⟩ := blk4 kr2.out
    go_wp2_with fail
    refine bodyPost_ret (results_cell2 rfl _ _ (w.heap.size + 1) 32 _ (0, 0) _ rfl hfin.out.1 Tryz.underlying32 rfl (by kernel_rfl)) rfl ?_
    exact ⟨_, _, rfl, .inr ⟨hI.out, hp4.out⟩, hfin.out.2.2, hfin.out.2.1⟩

set_option maxRecDepth 100000 in
set_option maxHeartbeats 4000000 in
theorem rapart14_ok (n m : Int) (fad : Option Addr) (F fcap : Nat) (tv : Value) (ts : List Ti) (a : Int) (w : World) (hT : TV w tv ts) (P : World → Value → Int → Prop) (hPk : ∀ y y' v er, Kw y y' → P y v er → P y' v er)
    (hP : InW n a a → ∀ y, Below w.heap.size w y → Calls Tryz.prog 65 #[.slice fad F fcap, .int .i64 a] y fun e w' => ∃ ga gl gc er, e = .returned (.tuple #[.slice ga gl gc, .int .i64 er]) ∧ P w' (.slice ga gl gc) er ∧ Below y.heap.size y w') :
    Calls Tryz.prog 33 #[.agg #[.int .i64 n, .int .i64 m, .slice fad F fcap, tv], .int .i64 a] w fun x w' => ∃ fv er, x = .returned (.tuple #[.agg #[.int .i64 n, .int .i64 m, fv, tv], .int .i64 er]) ∧ ((¬ InW n a a ∧ er = 12 ∧ fv = .slice fad F fcap) ∨ (InW n a a ∧ P w' fv er)) ∧ TV w' tv ts ∧ Below w.heap.size w w' := by
  have hT0 := hid hT
  obtain ⟨tad, tcap, rfl⟩ := hT.form
  have hin := hid (fun a b y => rin14_ok n m fad tad F fcap ts.length tcap a b y)
  obtain ⟨T, hTl⟩ : ∃ T, ts.length = T := ⟨_, rfl⟩
  rw [hTl] at hT0 hin ⊢
  replace hTl := hid hTl
  obtain ⟨w1, hw1⟩ : ∃ w1, (w.alloc (.cells #[.int .i64 n, .int .i64 m, .slice fad F fcap, .slice tad T tcap] 32)).alloc (.cells #[.int .i64 0, .int .i64 0, .slice none 0 0, .slice none 0 0] 32) = w1 := ⟨_, rfl⟩
  have kb : Hid (w1.heap[w.heap.size]? = some (.cells #[.int .i64 n, .int .i64 m, .slice fad F fcap, .slice tad T tcap] 32 (0, 0))) := by
    rw [← hw1]
    exact hid (((balloc _ _).block _ (by simp)).trans (heap_alloc_new w _))
  have kr : Hid (w1.heap[w.heap.size + 1]? = some (.cells #[.int .i64 0, .int .i64 0, .slice none 0 0, .slice none 0 0] 32 (0, 0))) := by
    rw [← hw1]
    have := heap_alloc_new (w.alloc (.cells #[.int .i64 n, .int .i64 m, .slice fad F fcap, .slice tad T tcap] 32)) (.cells #[.int .i64 0, .int .i64 0, .slice none 0 0, .slice none 0 0] 32)
    rw [show (w.alloc (.cells #[.int .i64 n, .int .i64 m, .slice fad F fcap, .slice tad T tcap] 32)).heap.size = w.heap.size + 1 from by simp] at this
    exact hid this
  have hbw : Hid (Below w.heap.size w w1) := by rw [← hw1]; exact hid ((balloc w _).trans ((balloc _ _).mono (balloc w _).size))
  have hTV := hid (hT0.out.below hbw.out)
  replace hw1 := hid hw1
  replace hP := hid hP
  replace hPk := hid hPk
  clear hT hT0
  obtain ⟨⟨b0, b1, b2, b3⟩, _⟩ := blk4 kb.out
  go_enter Tryz.func33, Tryz.ntmps33
  go_upto_region 1 with fail
  rw [hw1.out]
  clear hw1
  go_wp2_with fail
  refine (hin.out _ _ _).mono ?_
  rintro x w2 ⟨v, rfl, ⟨s, rfl, hs⟩, bb⟩
  clear hin
  replace kb := hid ((bb.block _ (Array.getElem?_eq_some_iff.1 kb.out).1).trans kb.out)
  replace kr := hid ((bb.block _ (Array.getElem?_eq_some_iff.1 kr.out).1).trans kr.out)
  replace hbw := hid (hbw.out.trans (bb.mono hbw.out.size))
  replace hTV := hid (hTV.out.below bb)
  clear bb b0 b1 b2 b3
  obtain ⟨⟨b0, b1, b2, b3⟩, _⟩ := blk4 kb.out
  cases s with
  | false =>
    have hdr : Hid (¬ InW n a a) := hid (fun q => by have := hs.2 q; cases this)
    clear hs
    have hfin := hid (fin4 kr.out hbw.out (by omega) (hTV.out) (.int .i64 n) (.int .i64 m) (.slice fad F fcap))
    obtain ⟨⟨f5, f6, f7, f8⟩, f9, f10, f11, f12⟩ := blk4 kr.out
    go_wp2_with fail
    refine bodyPost_ret (results_cell2 rfl _ _ (w.heap.size + 1) 32 _ (0, 0) _ rfl hfin.out.1 Tryz.underlying32 rfl (by kernel_rfl)) rfl ?_
    exact ⟨_, _, rfl, .inl ⟨hdr.out, rfl, rfl⟩, hfin.out.2.2, hfin.out.2.1⟩
  | true =>
    have hI := hid (hs.1 rfl)
    clear hs
    go_wp2_with fail
    refine (hP.out hI.out _ hbw.out).mono ?_
    rintro x w9 ⟨ga, gl, gc, er, rfl, hp, bb⟩
    replace hp := hid hp
    clear hP
    replace kb := hid ((bb.block _ (Array.getElem?_eq_some_iff.1 kb.out).1).trans kb.out)
    replace kr := hid ((bb.block _ (Array.getElem?_eq_some_iff.1 kr.out).1).trans kr.out)
    replace hbw := hid (hbw.out.trans (bb.mono hbw.out.size))
    replace hTV := hid (hTV.out.below bb)
    clear bb b0 b1 b2 b3
    obtain ⟨⟨b0, b1, b2, b3⟩, _⟩ := blk4 kb.out
    obtain ⟨_, m0, m1, m2, m3⟩ := blk4 kb.out
    have kb2 := hid (set2c_block kb.out (.slice ga gl gc))
    have kr2 : Hid ((w9.setCell ⟨w.heap.size, 2, none⟩ (.slice ga gl gc)).heap[w.heap.size + 1]? = _) := hid ((Below.heap_setCell _ _ _ _ (by show w.heap.size + 1 ≠ w.heap.size; omega)).trans kr.out)
    have hT3 := hid (hTV.out.kt (kt_set kb.out (by decide) 2 (.slice ga gl gc)))
    have hb3 := hid (hbw.out.setCell (p := ⟨w.heap.size, 2, none⟩) (Nat.le_refl _) (.slice ga gl gc))
    have hp3 := hid (hPk.out _ _ _ _ (kw_set kb.out 2 (.slice ga gl gc)) hp.out)
    go_upto_region 5 with fail
    clear m0 m1 m2 m3 b0 b1 b2 b3 kb kr hp hTV hbw
    generalize w9.setCell ⟨w.heap.size, 2, none⟩ (.slice ga gl gc) = wz at kb2 kr2 hT3 hb3 hp3 ⊢
    have hfin := hid (fin4 kr2.out hb3.out (by omega) (hT3.out) (.int .i64 n) (.int .i64 m) (.slice ga gl gc))
    have hp4 := hid (hPk.out _ _ _ _ (kw4 kr2.out (.int .i64 n) (.int .i64 m) (.slice ga gl gc) (.slice tad T tcap)) hp3.out)
    obtain ⟨⟨f1, f2, f3, f4⟩, _⟩ := blk4 kb2.out
    obtain ⟨⟨f5, f6, f7, f8⟩, f9, f10, f11, f12⟩ := blk4 kr2.out
    go_wp2_with fail
    refine bodyPost_ret (results_cell2 rfl _ _ (w.heap.size + 1) 32 _ (0, 0) _ rfl hfin.out.1 Tryz.underlying32 rfl (by kernel_rfl)) rfl ?_
    exact ⟨_, _, rfl, .inr ⟨hI.out, hp4.out⟩, hfin.out.2.2, hfin.out.2.1⟩

set_option maxRecDepth 100000 in
set_option maxHeartbeats 4000000 in
theorem rmerge14_ok (n m : Int) (fad : Option Addr) (F fcap : Nat) (tv : Value) (ts : List Ti) (fi : Nat → Nat) (It : Nat → Prop) (a b : Int) (w : World) (hT : TV w tv ts) (htl : ts.length ≤ 1000) (hF : F ≤ 1000) (hit : ∀ t, t ∈ ts → It t.a ∧ It t.b) (hfi : ∀ d, It d → fi d < F) (hIn : ∀ d : Nat, (d : Int) < n → It d)
    (hfind : ∀ y, Below w.heap.size w y → ∀ d : Nat, It d → Calls Tryz.prog 39 #[.slice fad F fcap, .int .i64 (d : Int)] y fun e w' => ∃ k : Int, e = .returned (.tuple #[.int .i64 (fi d : Int), .int .i64 k]) ∧ Below y.heap.size y w') (P : World → Value → Int → Prop) (hPk : ∀ y y' v er, Kw y y' → P y v er → P y' v er)
    (hP : InW n a b → ¬ Lnk ts fi a b → ∀ y, Below w.heap.size w y → Calls Tryz.prog 67 #[.slice fad F fcap, .int .i64 a, .int .i64 b] y fun e w' => ∃ ga gl gc er, e = .returned (.tuple #[.slice ga gl gc, .int .i64 er]) ∧ P w' (.slice ga gl gc) er ∧ Below y.heap.size y w') :
    Calls Tryz.prog 36 #[.agg #[.int .i64 n, .int .i64 m, .slice fad F fcap, tv], .int .i64 a, .int .i64 b] w fun x w' => ∃ fv er, x = .returned (.tuple #[.agg #[.int .i64 n, .int .i64 m, fv, tv], .int .i64 er]) ∧ ((¬ InW n a b ∧ er = 12 ∧ fv = .slice fad F fcap) ∨ (InW n a b ∧ Lnk ts fi a b ∧ er = 20 ∧ fv = .slice fad F fcap) ∨ (InW n a b ∧ ¬ Lnk ts fi a b ∧ er = 0 ∧ ∃ er', P w' fv er')) ∧ TV w' tv ts ∧ Below w.heap.size w w' := by
  have hT0 := hid hT
  obtain ⟨tad, tcap, rfl⟩ := hT.form
  have hin := hid (fun a b y => rin14_ok n m fad tad F fcap ts.length tcap a b y)
  have hro : Hid (InW n a b → ∀ y, Below w.heap.size w y → Calls Tryz.prog 66 #[.agg #[.int .i64 n, .int .i64 m, .slice fad F fcap, .slice tad ts.length tcap], .int .i64 a, .int .i64 b] y fun e w' => ∃ rv s, e = .returned (.tuple #[rv, .bool s]) ∧ RdIs ts fi a.toNat b.toNat w' rv s ∧ Below y.heap.size y w') := hid (fun hi y hw => by
    obtain ⟨h1, h2, h3, h4⟩ := hi
    have := rroad14_ok n m fad F fcap (.slice tad ts.length tcap) ts fi It a.toNat b.toNat y (hT0.out.below hw) htl hF hit hfi (hIn _ (by omega)) (hIn _ (by omega)) (fun z hz d hd => hfind z (hw.trans (hz.mono hw.size)) d hd)
    rw [show ((a.toNat : Nat) : Int) = a from by omega, show ((b.toNat : Nat) : Int) = b from by omega] at this
    exact this)
  clear hfind hit hfi hIn
  replace hP := hid hP
  obtain ⟨T, hTl⟩ : ∃ T, ts.length = T := ⟨_, rfl⟩
  rw [hTl] at hT0 hin hro ⊢
  replace hTl := hid hTl
  obtain ⟨w1, hw1⟩ : ∃ w1, (w.alloc (.cells #[.int .i64 n, .int .i64 m, .slice fad F fcap, .slice tad T tcap] 32)).alloc (.cells #[.int .i64 0, .int .i64 0, .slice none 0 0, .slice none 0 0] 32) = w1 := ⟨_, rfl⟩
  have kb : Hid (w1.heap[w.heap.size]? = some (.cells #[.int .i64 n, .int .i64 m, .slice fad F fcap, .slice tad T tcap] 32 (0, 0))) := by
    rw [← hw1]
    exact hid (((balloc _ _).block _ (by simp)).trans (heap_alloc_new w _))
  have kr : Hid (w1.heap[w.heap.size + 1]? = some (.cells #[.int .i64 0, .int .i64 0, .slice none 0 0, .slice none 0 0] 32 (0, 0))) := by
    rw [← hw1]
    have := heap_alloc_new (w.alloc (.cells #[.int .i64 n, .int .i64 m, .slice fad F fcap, .slice tad T tcap] 32)) (.cells #[.int .i64 0, .int .i64 0, .slice none 0 0, .slice none 0 0] 32)
    rw [show (w.alloc (.cells #[.int .i64 n, .int .i64 m, .slice fad F fcap, .slice tad T tcap] 32)).heap.size = w.heap.size + 1 from by simp] at this
    exact hid this
  have hbw : Hid (Below w.heap.size w w1) := by rw [← hw1]; exact hid ((balloc w _).trans ((balloc _ _).mono (balloc w _).size))
  have hTV := hid (hT0.out.below hbw.out)
  replace hw1 := hid hw1
  replace hPk := hid hPk
  clear hT hT0
  obtain ⟨⟨b0, b1, b2, b3⟩, _⟩ := blk4 kb.out
  go_enter Tryz.func36, Tryz.ntmps36
  go_upto_region 1 with fail
  rw [hw1.out]
  clear hw1
  go_wp2_with fail
  refine (hin.out _ _ _).mono ?_
  rintro x w2 ⟨v, rfl, ⟨s, rfl, hs⟩, bb⟩
  clear hin
  replace kb := hid ((bb.block _ (Array.getElem?_eq_some_iff.1 kb.out).1).trans kb.out)
  replace kr := hid ((bb.block _ (Array.getElem?_eq_some_iff.1 kr.out).1).trans kr.out)
  replace hbw := hid (hbw.out.trans (bb.mono hbw.out.size))
  replace hTV := hid (hTV.out.below bb)
  clear bb b0 b1 b2 b3
  obtain ⟨⟨b0, b1, b2, b3⟩, _⟩ := blk4 kb.out
  cases s with
  | false =>
    have hdr : Hid (¬ InW n a b) := hid (fun q => by have := hs.2 q; cases this)
    clear hs
    have hfin := hid (fin4 kr.out hbw.out (by omega) (hTV.out) (.int .i64 n) (.int .i64 m) (.slice fad F fcap))
    obtain ⟨⟨f5, f6, f7, f8⟩, f9, f10, f11, f12⟩ := blk4 kr.out
    go_wp2_with fail
    refine bodyPost_ret (results_cell2 rfl _ _ (w.heap.size + 1) 32 _ (0, 0) _ rfl hfin.out.1 Tryz.underlying32 rfl (by kernel_rfl)) rfl ?_
    exact ⟨_, _, rfl, .inl ⟨hdr.out, rfl, rfl⟩, hfin.out.2.2, hfin.out.2.1⟩
  | true =>
    have hI := hid (hs.1 rfl)
    clear hs
    go_wp2_with fail
    refine (hro.out hI.out _ hbw.out).mono ?_
    rintro x w3 ⟨rv, s, rfl, hrd, bb⟩
    have hrf : ∃ ra rl rc, rv = .slice ra rl rc := by
      cases s with
      | false => exact ⟨_, _, _, hrd.2.2 rfl⟩
      | true =>
        obtain ⟨r, ls, _, _, h⟩ := hrd.2.1 rfl
        obtain ⟨ra, rc, h⟩ := h.form
        exact ⟨_, _, _, h⟩
    obtain ⟨ra, rl, rc, rfl⟩ := hrf
    replace hrd := hid hrd.1
    clear hro
    replace kb := hid ((bb.block _ (Array.getElem?_eq_some_iff.1 kb.out).1).trans kb.out)
    replace kr := hid ((bb.block _ (Array.getElem?_eq_some_iff.1 kr.out).1).trans kr.out)
    replace hbw := hid (hbw.out.trans (bb.mono hbw.out.size))
    replace hTV := hid (hTV.out.below bb)
    clear bb b0 b1 b2 b3
    obtain ⟨⟨b0, b1, b2, b3⟩, _⟩ := blk4 kb.out
    cases s with
    | true =>
      have hdr : Hid (Lnk ts fi a b) := hid (hrd.out.1 rfl)
      clear hrd
      have hfin := hid (fin4 kr.out hbw.out (by omega) (hTV.out) (.int .i64 n) (.int .i64 m) (.slice fad F fcap))
      obtain ⟨⟨f5, f6, f7, f8⟩, f9, f10, f11, f12⟩ := blk4 kr.out
      go_wp2_with fail
      refine bodyPost_ret (results_cell2 rfl _ _ (w.heap.size + 1) 32 _ (0, 0) _ rfl hfin.out.1 Tryz.underlying32 rfl (by kernel_rfl)) rfl ?_
      exact ⟨_, _, rfl, .inr (.inl ⟨hI.out, hdr.out, rfl, rfl⟩), hfin.out.2.2, hfin.out.2.1⟩
    | false =>
      have hdr : Hid (¬ Lnk ts fi a b) := hid (fun q => by have := hrd.out.2 q; cases this)
      clear hrd
      go_wp2_with fail
      refine (hP.out hI.out hdr.out _ hbw.out).mono ?_
      rintro x w9 ⟨ga, gl, gc, er, rfl, hp, bb⟩
      replace hp := hid hp
      clear hP
      replace kb := hid ((bb.block _ (Array.getElem?_eq_some_iff.1 kb.out).1).trans kb.out)
      replace kr := hid ((bb.block _ (Array.getElem?_eq_some_iff.1 kr.out).1).trans kr.out)
      replace hbw := hid (hbw.out.trans (bb.mono hbw.out.size))
      replace hTV := hid (hTV.out.below bb)
      clear bb b0 b1 b2 b3
      obtain ⟨⟨b0, b1, b2, b3⟩, _⟩ := blk4 kb.out
      obtain ⟨_, m0, m1, m2, m3⟩ := blk4 kb.out
      have kb2 := hid (set2c_block kb.out (.slice ga gl gc))
      have kr2 : Hid ((w9.setCell ⟨w.heap.size, 2, none⟩ (.slice ga gl gc)).heap[w.heap.size + 1]? = _) := hid ((Below.heap_setCell _ _ _ _ (by show w.heap.size + 1 ≠ w.heap.size; omega)).trans kr.out)
      have hT3 := hid (hTV.out.kt (kt_set kb.out (by decide) 2 (.slice ga gl gc)))
      have hb3 := hid (hbw.out.setCell (p := ⟨w.heap.size, 2, none⟩) (Nat.le_refl _) (.slice ga gl gc))
      have hp3 := hid (hPk.out _ _ _ _ (kw_set kb.out 2 (.slice ga gl gc)) hp.out)
      go_upto_region 7 with fail
      clear m0 m1 m2 m3 b0 b1 b2 b3 kb kr hp hTV hbw
      generalize w9.setCell ⟨w.heap.size, 2, none⟩ (.slice ga gl gc) = wz at kb2 kr2 hT3 hb3 hp3 ⊢
      have hfin := hid (fin4 kr2.out hb3.out (by omega) (hT3.out) (.int .i64 n) (.int .i64 m) (.slice ga gl gc))
      have hp4 := hid (hPk.out _ _ _ _ (kw4 kr2.out (.int .i64 n) (.int .i64 m) (.slice ga gl gc) (.slice tad T tcap)) hp3.out)
      obtain ⟨⟨f1, f2, f3, f4⟩, _⟩ := blk4 kb2.out
      obtain ⟨⟨f5, f6, f7, f8⟩, f9, f10, f11, f12⟩ := blk4 kr2.out
      go_wp2_with fail
      refine bodyPost_ret (results_cell2 rfl _ _ (w.heap.size + 1) 32 _ (0, 0) _ rfl hfin.out.1 Tryz.underlying32 rfl (by kernel_rfl)) rfl ?_
      exact ⟨_, _, rfl, .inr (.inr ⟨hI.out, hdr.out, rfl, _, hp4.out⟩), hfin.out.2.2, hfin.out.2.1⟩
end Go.Proofs.YtdmkbcbgjdmgdaaGreatDoor.Wd

namespace Go.Proofs.YtdmkbcbgjdmgdaaGreatDoor.Wd
open Go.RowKit
set_option linter.unusedVariables false

set_option maxRecDepth 100000 in
set_option maxHeartbeats 4000000 in
theorem rnew14_ok (n m : Int) (w : World) (P : World → Value → Prop) (hPk : ∀ y y' v, Kw y y' → P y v → P y' v)
    (hP : ∀ y, Below w.heap.size w y → Calls Tryz.prog 31 #[.int .i64 n] y fun e w' => ∃ ga gl gc, e = .returned (.slice ga gl gc) ∧ P w' (.slice ga gl gc) ∧ Below y.heap.size y w') :
    Calls Tryz.prog 9 #[.int .i64 n, .int .i64 m] w fun x w' => ∃ fv, x = .returned (.agg #[.int .i64 n, .int .i64 m, fv, .slice none 0 0]) ∧ P w' fv ∧ TV w' (.slice none 0 0) [] ∧ Below w.heap.size w w' := by
  have kr := hid (heap_alloc_new w (.cells #[.int .i64 0, .int .i64 0, .slice none 0 0, .slice none 0 0] 32))
  have hbw := hid (balloc w (.cells #[.int .i64 0, .int .i64 0, .slice none 0 0, .slice none 0 0] 32))
  obtain ⟨w1, hw1⟩ : ∃ w1, w.alloc (.cells #[.int .i64 0, .int .i64 0, .slice none 0 0, .slice none 0 0] 32) = w1 := ⟨_, rfl⟩
  rw [hw1] at kr hbw
  replace hw1 := hid hw1
  replace hP := hid hP
  replace hPk := hid hPk
  go_enter Tryz.func9, Tryz.ntmps9
  go_upto_region 1 with fail
  rw [hw1.out]
  clear hw1
  go_wp2_with fail
  refine (hP.out _ hbw.out).mono ?_
  rintro x w9 ⟨ga, gl, gc, rfl, hp, bb⟩
  replace kr := hid ((bb.block _ (Array.getElem?_eq_some_iff.1 kr.out).1).trans kr.out)
  replace hbw := hid (hbw.out.trans (bb.mono hbw.out.size))
  clear bb hP
  have hfin := hid (fin4 kr.out hbw.out (Nat.le_refl _) (tv_nil w9) (.int .i64 n) (.int .i64 m) (.slice ga gl gc))
  have hp4 := hid (hPk.out _ _ _ (kw4 kr.out (.int .i64 n) (.int .i64 m) (.slice ga gl gc) (.slice none 0 0)) hp)
  obtain ⟨⟨f5, f6, f7, f8⟩, f9, f10, f11, f12⟩ := blk4 kr.out
  clear hp
  go_wp2_with fail
  refine bodyPost_ret (results_cell_row rfl _ _ w.heap.size 32 _ (0, 0) _ rfl hfin.out.1 Tryz.underlying32 rfl (by kernel_rfl)) rfl ?_
  exact ⟨_, rfl, hp4.out, hfin.out.2.2, hfin.out.2.1⟩
end Go.Proofs.YtdmkbcbgjdmgdaaGreatDoor.Wd
