/- The document's Drop of a web, walked. -/
import Derived.Test.YtdmkbcbgjdmgdaaGreatDoorBrd
import Derived.Test.YtdmkbcbgjdmgdaaGreatDoorBrs
namespace Go.Proofs.YtdmkbcbgjdmgdaaGreatDoor.Wd
open Go.RowKit
set_option linter.unusedVariables false

theorem set4_block {w : World} {g : Nat} {t : TypeId} {u v x y : Value} (h : w.heap[g]? = some (.cells #[u, v, x, y] t (0, 0))) (a b c d : Value) : ((((w.setCell ⟨g, 0, none⟩ a).setCell ⟨g, 1, none⟩ b).setCell ⟨g, 2, none⟩ c).setCell ⟨g, 3, none⟩ d).heap[g]? = some (.cells #[a, b, c, d] t (0, 0)) := by
  unfold World.setCell
  rw [Array.getElem?_modify, if_pos rfl, Array.getElem?_modify, if_pos rfl, Array.getElem?_modify, if_pos rfl, Array.getElem?_modify, if_pos rfl, h]
  simp
theorem set3_block {w : World} {g : Nat} {t : TypeId} {u v x y : Value} (h : w.heap[g]? = some (.cells #[u, v, x, y] t (0, 0))) (d : Value) : (w.setCell ⟨g, 3, none⟩ d).heap[g]? = some (.cells #[u, v, x, d] t (0, 0)) := by
  unfold World.setCell
  rw [Array.getElem?_modify, if_pos rfl, h]
  simp
theorem below4 {B : Nat} {a w : World} {g : Nat} (h : Below B a w) (hg : B ≤ g) (x y z u : Value) : Below B a ((((w.setCell ⟨g, 0, none⟩ x).setCell ⟨g, 1, none⟩ y).setCell ⟨g, 2, none⟩ z).setCell ⟨g, 3, none⟩ u) :=
  (((h.setCell (p := ⟨g, 0, none⟩) hg x).setCell (p := ⟨g, 1, none⟩) hg y).setCell (p := ⟨g, 2, none⟩) hg z).setCell (p := ⟨g, 3, none⟩) hg u
theorem blk4 {w : World} {g : Nat} {t : TypeId} {a b c d : Value} (h : w.heap[g]? = some (.cells #[a, b, c, d] t (0, 0))) : (w.cell? ⟨g, 0, none⟩ = some a ∧ w.cell? ⟨g, 1, none⟩ = some b ∧ w.cell? ⟨g, 2, none⟩ = some c ∧ w.cell? ⟨g, 3, none⟩ = some d) ∧ w.frozen? ⟨g, 0, none⟩ = false ∧ w.frozen? ⟨g, 1, none⟩ = false ∧ w.frozen? ⟨g, 2, none⟩ = false ∧ w.frozen? ⟨g, 3, none⟩ = false := by
  unfold World.cell? World.frozen?
  rw [h]
  simp

/-- A store into a block that holds no ties. -/
theorem kt_set {w : World} {g : Nat} {t : TypeId} {cs : Array Value} {fr : Nat × Nat} (h : w.heap[g]? = some (.cells cs t fr)) (hne : t ≠ 62) (k : Nat) (v : Value) : Kt w (w.setCell ⟨g, k, none⟩ v) := fun b hb => by
  refine Below.heap_setCell _ _ _ _ (fun e => ?_)
  have e' : b = g := e
  subst e'
  exact hne (Ty.uniq ⟨_, _, h⟩ hb)
theorem kt4 {w : World} {g : Nat} {u v x y : Value} (h : w.heap[g]? = some (.cells #[u, v, x, y] 32 (0, 0))) (a b c d : Value) : Kt w ((((w.setCell ⟨g, 0, none⟩ a).setCell ⟨g, 1, none⟩ b).setCell ⟨g, 2, none⟩ c).setCell ⟨g, 3, none⟩ d) := fun k hk => by
  have hne : k ≠ g := fun e => by
    subst e
    exact absurd (Ty.uniq ⟨_, _, h⟩ hk) (by decide)
  rw [Below.heap_setCell _ _ _ _ hne, Below.heap_setCell _ _ _ _ hne, Below.heap_setCell _ _ _ _ hne, Below.heap_setCell _ _ _ _ hne]

/-- The web that is answered, laid into the result's block. -/
theorem fin4 {w y : World} {B r : Nat} {u v x z tv : Value} {ts : List Ti} (hr : y.heap[r]? = some (.cells #[u, v, x, z] 32 (0, 0))) (hb : Below B w y) (hB : B ≤ r) (hT : TV y tv ts) (a b c : Value) :
    ((((y.setCell ⟨r, 0, none⟩ a).setCell ⟨r, 1, none⟩ b).setCell ⟨r, 2, none⟩ c).setCell ⟨r, 3, none⟩ tv).heap[r]? = some (.cells #[a, b, c, tv] 32 (0, 0)) ∧ Below B w ((((y.setCell ⟨r, 0, none⟩ a).setCell ⟨r, 1, none⟩ b).setCell ⟨r, 2, none⟩ c).setCell ⟨r, 3, none⟩ tv) ∧ TV ((((y.setCell ⟨r, 0, none⟩ a).setCell ⟨r, 1, none⟩ b).setCell ⟨r, 2, none⟩ c).setCell ⟨r, 3, none⟩ tv) tv ts :=
  ⟨set4_block hr _ _ _ _, below4 hb hB _ _ _ _, hT.kt (kt4 hr _ _ _ _)⟩

theorem results_cell2 {P : Program} {fn : Func} {p u : Tmp} {ty : TypeId} (h : fn.results = #[.cell p ty, .tmp u]) (tmps : Array Value) (w : World) (g : Nat) (t : TypeId) (cs : Array Value) (fr : Nat × Nat) (d : TypeDesc)
    (hp : tmps.getD p undef = .pointer (some ⟨g, 0, none⟩)) (hg : w.heap[g]? = some (.cells cs t fr))
    (hu : P.underlying ty = some d) (hd : (match d with | .struct _ | .array _ _ => true | _ => false) = true) (hi : (P.info? ty).map (·.size) = some cs.size) :
    (results fn tmps).run P w = .ok (.tuple #[.agg cs, tmps.getD u undef]) w := by
  rw [results_cell_tmp h, hp]
  simp [asAddr, run_loadVar_row w g t ty cs fr d hg hu hd hi]

theorem tcs_take (l : List Ti) (j : Nat) : tcs (l.take j) = (tcs l).take (j * 4) := by
  by_cases h : j ≤ l.length
  · have e : tcs l = tcs (l.take j) ++ tcs (l.drop j) := by rw [← tcs_append, List.take_append_drop]
    have e2 : (tcs (l.take j)).length = j * 4 := by rw [tcs_length, List.length_take]; omega
    rw [e, ← e2, List.take_left]
  · rw [List.take_of_length_le (by omega), List.take_of_length_le (by rw [tcs_length]; omega)]
theorem tcs_drop (l : List Ti) (j : Nat) : tcs (l.drop j) = (tcs l).drop (j * 4) := by
  by_cases h : j ≤ l.length
  · have e : tcs l = tcs (l.take j) ++ tcs (l.drop j) := by rw [← tcs_append, List.take_append_drop]
    have e2 : (tcs (l.take j)).length = j * 4 := by rw [tcs_length, List.length_take]; omega
    rw [e, ← e2, List.drop_left]
  · rw [List.drop_of_length_le (by omega), List.drop_of_length_le (by rw [tcs_length]; omega)]
    rfl

/-- The begin and the rest of a slice of ties. -/
theorem TV.take {w : World} {g o n cap j : Nat} {l : List Ti} (h : TV w (.slice (some ⟨g, o, none⟩) n cap) l) (hj : j ≤ n) : TV w (.slice (some ⟨g, o, none⟩) j cap) (l.take j) := by
  obtain ⟨ad, n', cap', e, h2, h3, h4, h5, h6⟩ := h
  cases e
  refine ⟨_, _, _, rfl, by rw [List.length_take]; omega, by omega, h4, (fun e => by cases e), fun a e => ?_⟩
  cases e
  obtain ⟨g', o', cs, fr, e1, e2, e3⟩ := h6 _ rfl
  cases e1
  refine ⟨_, _, cs, fr, rfl, e2, fun k u hu => e3 k u ?_⟩
  rw [tcs_take, List.getElem?_take] at hu
  split at hu
  · exact hu
  · cases hu
theorem TV.drop {w : World} {g o n cap j : Nat} {l : List Ti} (h : TV w (.slice (some ⟨g, o, none⟩) n cap) l) (hj : j ≤ n) : TV w (.slice (some (if cap = j then ⟨g, o, none⟩ else ⟨g, o + j * 4, none⟩)) (n - j) (cap - j)) (l.drop j) := by
  obtain ⟨ad, n', cap', e, h2, h3, h4, h5, h6⟩ := h
  cases e
  refine ⟨_, _, _, rfl, by rw [List.length_drop]; omega, by omega, by omega, (fun e => by cases e), fun a e => ?_⟩
  obtain ⟨g', o', cs, fr, e1, e2, e3⟩ := h6 _ rfl
  cases e1
  by_cases hc : cap = j
  · rw [if_pos hc] at e
    cases e
    refine ⟨_, _, cs, fr, rfl, e2, fun k u hu => ?_⟩
    have h7 := (List.getElem?_eq_some_iff.1 hu).1
    rw [tcs_length, List.length_drop] at h7
    omega
  · rw [if_neg hc] at e
    cases e
    refine ⟨_, _, cs, fr, rfl, e2, fun k u hu => ?_⟩
    rw [tcs_drop, List.getElem?_drop] at hu
    rw [Nat.add_assoc]
    exact e3 _ u hu

theorem wrap_succ14 (i : Nat) (h : i ≤ 1000) : IntKind.i64.wrap ((i : Int) + 1) = (i : Int) + 1 := by rw [IntKind.wrap_i64]; omega

/-- What Drop answers. -/
def DrIs (m : Int) (ts : List Ti) (e er : Int) (ts' : List Ti) : Prop :=
  (¬ (0 ≤ e ∧ e < m) ∧ er = 12 ∧ ts' = ts) ∨ ((0 ≤ e ∧ e < m) ∧ (∀ t, t ∈ ts → (t.e : Int) ≠ e) ∧ er = 21 ∧ ts' = ts) ∨ ((0 ≤ e ∧ e < m) ∧ er = 0 ∧ ∃ (j : Nat) (t : Ti), ts[j]? = some t ∧ (t.e : Int) = e ∧ ts' = ts.take j ++ ts.drop (j + 1))

set_option maxRecDepth 100000 in
set_option maxHeartbeats 4000000 in
theorem rdrop14_ok (n m : Int) (fad : Option Addr) (F fcap : Nat) (tv : Value) (ts : List Ti) (e : Int) (w : World) (hT : TV w tv ts) (htl : ts.length ≤ 1000) :
    Calls Tryz.prog 35 #[.agg #[.int .i64 n, .int .i64 m, .slice fad F fcap, tv], .int .i64 e] w fun x w' => ∃ tv' er ts', x = .returned (.tuple #[.agg #[.int .i64 n, .int .i64 m, .slice fad F fcap, tv'], .int .i64 er]) ∧ DrIs m ts e er ts' ∧ TV w' tv' ts' ∧ Below w.heap.size w w' := by
  have hT0 := hid hT
  obtain ⟨tad, tcap, rfl⟩ := hT.form
  have hat := hid (fun y (hy : TV y (.slice tad ts.length tcap) ts) => rat14_ok n m fad F fcap (.slice tad ts.length tcap) ts e y hy htl)
  obtain ⟨T, hTl⟩ : ∃ T, ts.length = T := ⟨_, rfl⟩
  rw [hTl] at hT0 htl hat ⊢
  replace hTl := hid hTl
  obtain ⟨w1, hw1⟩ : ∃ w1, (w.alloc (.cells #[.int .i64 n, .int .i64 m, .slice fad F fcap, .slice tad T tcap] 32)).alloc (.cells #[.int .i64 0, .int .i64 0, .slice none 0 0, .slice none 0 0] 32) = w1 := ⟨_, rfl⟩
  have kb : Hid (w1.heap[w.heap.size]? = some (.cells #[.int .i64 n, .int .i64 m, .slice fad F fcap, .slice tad T tcap] 32 (0, 0))) := by
    rw [← hw1]
    exact hid (((balloc _ _).block _ (by simp)).trans (heap_alloc_new w _))
  have kr : Hid (w1.heap[w.heap.size + 1]? = some (.cells #[.int .i64 0, .int .i64 0, .slice none 0 0, .slice none 0 0] 32 (0, 0))) := by
    rw [← hw1]
    have := heap_alloc_new (w.alloc (.cells #[.int .i64 n, .int .i64 m, .slice fad F fcap, .slice tad T tcap] 32)) (.cells #[.int .i64 0, .int .i64 0, .slice none 0 0, .slice none 0 0] 32)
    simp only [World.alloc, Array.size_push] at this ⊢
    exact hid this
  have hbw : Hid (Below w.heap.size w w1) := by rw [← hw1]; exact hid ((balloc w _).trans ((balloc _ _).mono (balloc w _).size))
  have hTV := hid (hT0.out.below hbw.out)
  replace hw1 := hid hw1
  clear hT hT0
  by_cases h1 : e < 0
  · have v1 : decide (e < 0) = true := decide_eq_true h1
    have hdr : Hid (DrIs m ts e 12 ts) := hid (.inl ⟨fun q => by omega, rfl, rfl⟩)
    clear h1
    obtain ⟨⟨b0, b1, b2, b3⟩, _⟩ := blk4 kb.out
    go_enter Tryz.func35, Tryz.ntmps35
    go_upto_region 1 with fail
    rw [hw1.out]
    clear hw1
    have hfin := hid (fin4 kr.out hbw.out (by omega) (hTV.out) (.int .i64 n) (.int .i64 m) (.slice fad F fcap))
    obtain ⟨⟨f1, f2, f3, f4⟩, _⟩ := blk4 kb.out
    obtain ⟨⟨f5, f6, f7, f8⟩, f9, f10, f11, f12⟩ := blk4 kr.out
    go_wp2_with fail
    refine bodyPost_ret (results_cell2 rfl _ _ (w.heap.size + 1) 32 _ (0, 0) _ rfl hfin.out.1 Tryz.underlying32 rfl (by kernel_rfl)) rfl ?_
    exact ⟨_, _, _, rfl, hdr.out, hfin.out.2.2, hfin.out.2.1⟩
  · have v1 : decide (e < 0) = false := decide_eq_false h1
    by_cases h2 : e < m
    · have v2 : decide (e ≥ m) = false := decide_eq_false (by omega)
      have v2' : decide (m ≤ e) = false := decide_eq_false (by omega)
      have hin : Hid (0 ≤ e ∧ e < m) := hid ⟨by omega, h2⟩
      clear h1 h2
      obtain ⟨⟨b0, b1, b2, b3⟩, _⟩ := blk4 kb.out
      go_enter Tryz.func35, Tryz.ntmps35
      go_upto_region 1 with fail
      rw [hw1.out]
      clear hw1
      go_wp2_with fail
      refine (hat.out _ hTV.out).mono ?_
      rintro x w2 ⟨i, rfl, hai, bb⟩
      replace kb := hid ((bb.block _ (Array.getElem?_eq_some_iff.1 kb.out).1).trans kb.out)
      replace kr := hid ((bb.block _ (Array.getElem?_eq_some_iff.1 kr.out).1).trans kr.out)
      replace hbw := hid (hbw.out.trans (bb.mono hbw.out.size))
      replace hTV := hid (hTV.out.below bb)
      clear bb hat b0 b1 b2 b3 v1 v2 v2'
      rcases hai with ⟨j, t, rfl, ht, hte, _⟩ | ⟨rfl, hno⟩
      · have hjT : j < T := by have := (List.getElem?_eq_some_iff.1 ht).1; have := hTl.out; omega
        have hdr : Hid (DrIs m ts e 0 (ts.take j ++ ts.drop (j + 1))) := hid (.inr (.inr ⟨hin.out, rfl, j, t, ht, hte, rfl⟩))
        obtain ⟨tg, tof, tcp, e0, _⟩ := hTV.out.cells ht
        simp only [Value.slice.injEq] at e0
        obtain ⟨e1, e2, e3⟩ := e0
        clear e2 e3
        subst e1
        have hcap : T ≤ tcap := by
          obtain ⟨_, _, _, e, h7, h8, _⟩ := hTV.out
          cases e
          exact h8
        have hcapM : tcap ≤ maxLen := by
          obtain ⟨_, _, _, e, h7, h8, h9, _⟩ := hTV.out
          cases e
          exact h9
        unfold maxLen at hcapM
        have hT1 := hid (fun y (hy : Below w2.heap.size w2 y) => (hTV.out.below hy).take (j := j) (by omega))
        obtain ⟨ad8, had8⟩ : ∃ ad8 : Addr, (if tcap = j + 1 then (⟨tg, tof, none⟩ : Addr) else ⟨tg, tof + (j + 1) * 4, none⟩) = ad8 := ⟨_, rfl⟩
        have hT2 : Hid (∀ y, Below w2.heap.size w2 y → TV y (.slice (some ad8) (T - (j + 1)) (tcap - (j + 1))) (ts.drop (j + 1))) := hid (fun y hy => by rw [← had8]; exact (hTV.out.below hy).drop (by omega))
        have hln1 : (ts.take j).length = j := by rw [List.length_take]; have := hTl.out; omega
        have hln2 : (ts.drop (j + 1)).length = T - (j + 1) := by rw [List.length_drop]; have := hTl.out; omega
        have v3 : decide ((j : Int) < 0) = false := decide_eq_false (by omega)
        have z0 : (0 : Int) ≤ (j : Int) := by omega
        have z1 : (j : Int) ≤ (tcap : Int) := by omega
        have z3 : (j : Int) + 1 ≤ (tcap : Int) := by omega
        have z4 : (T : Int) ≤ (tcap : Int) := by omega
        have z5 : (j : Int) + 1 ≤ (T : Int) := by omega
        have z6 : (0 : Int) ≤ (j : Int) + 1 := by omega
        have zw := wrap_succ14 j (by omega)
        have hB : Hid (Below w2.heap.size w2 w2.drew) := hid (Below.refl _ _).drew
        have hSS : Hid (∀ y, Below w2.heap.size w2 y → y.cell? ⟨w.heap.size, 3, none⟩ = some (.slice (some ⟨tg, tof, none⟩) T tcap)) := hid (fun y hy => (blk4 ((hy.block _ (Array.getElem?_eq_some_iff.1 kb.out).1).trans kb.out)).1.2.2.2)
        have hkb := hid (fun y (hy : Below w2.heap.size w2 y) => (hy.block _ (Array.getElem?_eq_some_iff.1 kb.out).1).trans kb.out)
        have hkr := hid (fun y (hy : Below w2.heap.size w2 y) => (hy.block _ (Array.getElem?_eq_some_iff.1 kr.out).1).trans kr.out)
        replace hin := hid hin
        clear ht hte hTV kb kr
        go_upto_region 7 with fail
        refine wp_region_noPanic ?_
        refine beginK (k := 13) (S := fun y => y.cell? ⟨w.heap.size, 3, none⟩ = some (.slice (some ⟨tg, tof, none⟩) T tcap)) (by kernel_rfl) (hSS.out _ hB.out) (fun _ => ?_)
        generalize w2.drew = x0 at hB ⊢
        refine takeK (i := 0) (v := ?_) (a' := ?_) ({ dst := some 23, op := Op.move (Operand.tmp 7), type := 30, pos := "ref.go:131", after := #[], guard := none }) rfl (by kernel_rfl) (by kernel_rfl) (by kernel_rfl) (by kernel_rfl) (by kernel_rfl) (fun _ _ _ h => h) (by rfl) ?_ (hSS.out _ hB.out) ?_ ?_
        rotate_left 2
        · (intro w' hSw; obtain q0 := hSw; go_simp; try with_reducible rfl)
        · (simp only [Act.put, List.setIfInBounds_toArray, List.set_cons_zero, List.set_cons_succ]; try rfl)
        refine takeK (i := 1) (v := ?_) (a' := ?_) ({ dst := some 24, op := Op.fieldAddr 32 (Operand.tmp 2) 3, type := 0, pos := "ref.go:131", after := #[], guard := none }) rfl (by kernel_rfl) (by kernel_rfl) (by kernel_rfl) (by kernel_rfl) (by kernel_rfl) (fun _ _ _ h => h) (by rfl) ?_ (hSS.out _ hB.out) ?_ ?_
        rotate_left 2
        · (intro w' hSw; obtain q0 := hSw; go_simp; try with_reducible rfl)
        · (simp only [Act.put, List.setIfInBounds_toArray, List.set_cons_zero, List.set_cons_succ]; try rfl)
        refine takeK (i := 2) (v := ?_) (a' := ?_) ({ dst := some 25, op := Op.load 30 (Operand.tmp 24), type := 30, pos := "ref.go:131", after := #[{ on := 1, ground := Ground.data }], guard := none }) rfl (by kernel_rfl) (by kernel_rfl) (by kernel_rfl) (by kernel_rfl) (by kernel_rfl) (fun _ _ _ h => h) (by rfl) ?_ (hSS.out _ hB.out) ?_ ?_
        rotate_left 2
        · (intro w' hSw; obtain q0 := hSw; go_simp; try with_reducible rfl)
        · (simp only [Act.put, List.setIfInBounds_toArray, List.set_cons_zero, List.set_cons_succ]; try rfl)
        refine takeK (i := 3) (v := ?_) (a' := ?_) ({ dst := some 26, op := Op.move (Operand.tmp 6), type := 3, pos := "ref.go:131", after := #[], guard := none }) rfl (by kernel_rfl) (by kernel_rfl) (by kernel_rfl) (by kernel_rfl) (by kernel_rfl) (fun _ _ _ h => h) (by rfl) ?_ (hSS.out _ hB.out) ?_ ?_
        rotate_left 2
        · (intro w' hSw; obtain q0 := hSw; go_simp; try with_reducible rfl)
        · (simp only [Act.put, List.setIfInBounds_toArray, List.set_cons_zero, List.set_cons_succ]; try rfl)
        refine takeK (i := 4) (v := ?_) (a' := ?_) ({ dst := some 27, op := Op.slice 30 (Operand.tmp 25) none (some (Operand.tmp 26)) none, type := 30, pos := "ref.go:131", after := #[{ on := 2, ground := Ground.data }, { on := 3, ground := Ground.data }], guard := none }) rfl (by kernel_rfl) (by kernel_rfl) (by kernel_rfl) (by kernel_rfl) (by kernel_rfl) (fun _ _ _ h => h) (by rfl) ?_ (hSS.out _ hB.out) ?_ ?_
        rotate_left 2
        · (intro w' hSw; obtain q0 := hSw; go_simp; try with_reducible rfl)
        · (simp only [Act.put, List.setIfInBounds_toArray, List.set_cons_zero, List.set_cons_succ]; try rfl)
        refine takeK (i := 6) (v := ?_) (a' := ?_) ({ dst := some 29, op := Op.fieldAddr 32 (Operand.tmp 2) 3, type := 0, pos := "ref.go:131", after := #[], guard := none }) rfl (by kernel_rfl) (by kernel_rfl) (by kernel_rfl) (by kernel_rfl) (by kernel_rfl) (fun _ _ _ h => h) (by rfl) ?_ (hSS.out _ hB.out) ?_ ?_
        rotate_left 2
        · (intro w' hSw; obtain q0 := hSw; go_simp; try with_reducible rfl)
        · (simp only [Act.put, List.setIfInBounds_toArray, List.set_cons_zero, List.set_cons_succ]; try rfl)
        refine takeK (i := 7) (v := ?_) (a' := ?_) ({ dst := some 30, op := Op.load 30 (Operand.tmp 29), type := 30, pos := "ref.go:131", after := #[{ on := 6, ground := Ground.data }], guard := none }) rfl (by kernel_rfl) (by kernel_rfl) (by kernel_rfl) (by kernel_rfl) (by kernel_rfl) (fun _ _ _ h => h) (by rfl) ?_ (hSS.out _ hB.out) ?_ ?_
        rotate_left 2
        · (intro w' hSw; obtain q0 := hSw; go_simp; try with_reducible rfl)
        · (simp only [Act.put, List.setIfInBounds_toArray, List.set_cons_zero, List.set_cons_succ]; try rfl)
        refine takeK (i := 8) (v := ?_) (a' := ?_) ({ dst := some 31, op := Op.move (Operand.tmp 6), type := 3, pos := "ref.go:131", after := #[], guard := none }) rfl (by kernel_rfl) (by kernel_rfl) (by kernel_rfl) (by kernel_rfl) (by kernel_rfl) (fun _ _ _ h => h) (by rfl) ?_ (hSS.out _ hB.out) ?_ ?_
        rotate_left 2
        · (intro w' hSw; obtain q0 := hSw; go_simp; try with_reducible rfl)
        · (simp only [Act.put, List.setIfInBounds_toArray, List.set_cons_zero, List.set_cons_succ]; try rfl)
        refine takeK (i := 9) (v := ?_) (a' := ?_) ({ dst := some 32, op := Op.binOp BinOp.add 3 (Operand.tmp 31) (Operand.const (Value.int IntKind.i64 1)) 3, type := 3, pos := "ref.go:131", after := #[{ on := 8, ground := Ground.data }], guard := none }) rfl (by kernel_rfl) (by kernel_rfl) (by kernel_rfl) (by kernel_rfl) (by kernel_rfl) (fun _ _ _ h => h) (by rfl) ?_ (hSS.out _ hB.out) ?_ ?_
        rotate_left 2
        · (intro w' hSw; obtain q0 := hSw; go_simp; try with_reducible rfl)
        · (simp only [Act.put, List.setIfInBounds_toArray, List.set_cons_zero, List.set_cons_succ]; try rfl)
        refine takeK (i := 10) (v := .slice (some ad8) (T - (j + 1)) (tcap - (j + 1))) (a' := ?_) ({ dst := some 33, op := Op.slice 30 (Operand.tmp 30) (some (Operand.tmp 32)) none none, type := 30, pos := "ref.go:131", after := #[{ on := 7, ground := Ground.data }, { on := 9, ground := Ground.data }], guard := none }) rfl (by kernel_rfl) (by kernel_rfl) (by kernel_rfl) (by kernel_rfl) (by kernel_rfl) (fun _ _ _ h => h) (by rfl) ?_ (hSS.out _ hB.out) ?_ ?_
        rotate_left 1
        · (intro w' hSw; go_simp; rw [← had8]; by_cases hq : tcap = j + 1 <;> simp [hq] <;> (intro hz; omega))
        · (simp only [Act.put, List.setIfInBounds_toArray, List.set_cons_zero, List.set_cons_succ]; try rfl)
        refine readyK (rs := [5]) (by kernel_rfl) (by simp) (fun i hi => ?_)
        simp only [List.mem_cons, List.not_mem_nil, or_false] at hi
        subst hi
        refine oneK (o := { dst := some 28, op := Op.call { callee := Callee.builtin Builtin.append, args := #[Operand.tmp 23, Operand.tmp 27], argTypes := #[30, 30] }, type := 30, pos := "ref.go:131", after := #[{ on := 0, ground := Ground.data }, { on := 4, ground := Ground.data }], guard := none }) rfl (fun K hK => ?_)
        refine step_ties rfl (.tmp 23) (.tmp 27) rfl w2.heap.size hB.out.size (.slice none 0 0) [] (by rfl) (World.ownsRow_nil _ _ _ _) _ _ (by rfl) (hT1.out _ hB.out) (by simp; omega) ?_
        intro v1 xw hOwn hgrow
        have hBx : Below x0.heap.size x0 xw := (Below.refl _ _).grown hgrow (Nat.le_refl _) (fun k hk => by cases hk)
        rw [List.nil_append] at hOwn
        replace hOwn := hid hOwn
        replace hB := hid (hB.out.trans (hBx.mono hB.out.size))
        clear hgrow hBx
        refine hK.out _ _ (.inr (hSS.out _ hB.out)) ?_
        clear hK K
        try simp only [Act.put, List.setIfInBounds_toArray, List.set_cons_zero, List.set_cons_succ]
        refine readyK (rs := [11]) (by kernel_rfl) (by simp) (fun i hi => ?_)
        simp only [List.mem_cons, List.not_mem_nil, or_false] at hi
        subst hi
        refine oneK (o := { dst := some 34, op := Op.call { callee := Callee.builtin Builtin.append, args := #[Operand.tmp 28, Operand.tmp 33], argTypes := #[30, 30] }, type := 30, pos := "ref.go:131", after := #[{ on := 5, ground := Ground.data }, { on := 10, ground := Ground.data }, { on := 5, ground := Ground.chain }], guard := none }) rfl (fun K hK => ?_)
        refine step_ties rfl (.tmp 28) (.tmp 33) rfl w2.heap.size hB.out.size v1 _ (by rfl) hOwn.out _ _ (by rfl) (hT2.out _ hB.out) (by omega) ?_
        intro v2 xv hOwn2 hgrow2
        have hB2 := hid (below_grown hB.out (Nat.le_refl _) hOwn.out (Nat.le_refl _) hgrow2)
        have hTv := hid (tv_own hOwn2)
        clear hOwn2 hgrow2 hOwn hB hT1 hT2 had8
        refine hK.out _ _ (.inr (hSS.out _ hB2.out)) ?_
        clear hK K
        try simp only [Act.put, List.setIfInBounds_toArray, List.set_cons_zero, List.set_cons_succ]
        have hB := hB2
        refine takeK (i := 12) (v := ?_) (a' := ?_) ({ dst := some 35, op := Op.fieldAddr 32 (Operand.tmp 2) 3, type := 0, pos := "ref.go:131", after := #[{ on := 0, ground := Ground.phase }, { on := 1, ground := Ground.phase }, { on := 2, ground := Ground.phase }, { on := 3, ground := Ground.phase }, { on := 4, ground := Ground.phase }, { on := 5, ground := Ground.phase }, { on := 6, ground := Ground.phase }, { on := 7, ground := Ground.phase }, { on := 8, ground := Ground.phase }, { on := 9, ground := Ground.phase }, { on := 10, ground := Ground.phase }, { on := 11, ground := Ground.phase }], guard := none }) rfl (by kernel_rfl) (by kernel_rfl) (by kernel_rfl) (by kernel_rfl) (by kernel_rfl) (fun _ _ _ h => h) (by rfl) ?_ (hSS.out _ hB.out) ?_ ?_
        rotate_left 2
        · (intro w' hSw; obtain q0 := hSw; go_simp; try with_reducible rfl)
        · (simp only [Act.put, List.setIfInBounds_toArray, List.set_cons_zero, List.set_cons_succ]; try rfl)
        clear hB hSS
        refine readyK (rs := [13]) (by kernel_rfl) (by simp) (fun i hi => ?_)
        simp only [List.mem_cons, List.not_mem_nil, or_false] at hi
        subst hi
        refine oneK (o := { dst := none, op := Op.store 30 (Operand.tmp 35) (Operand.tmp 34), type := 0, pos := "ref.go:131", after := #[{ on := 12, ground := Ground.data }, { on := 11, ground := Ground.data }, { on := 11, ground := Ground.chain }, { on := 0, ground := Ground.phase }, { on := 1, ground := Ground.phase }, { on := 2, ground := Ground.phase }, { on := 3, ground := Ground.phase }, { on := 4, ground := Ground.phase }, { on := 5, ground := Ground.phase }, { on := 6, ground := Ground.phase }, { on := 7, ground := Ground.phase }, { on := 8, ground := Ground.phase }, { on := 9, ground := Ground.phase }, { on := 10, ground := Ground.phase }, { on := 11, ground := Ground.phase }], guard := none }) rfl (fun K hK => ?_)
        have kb := hid (hkb.out _ hB2.out)
        have kr := hid (hkr.out _ hB2.out)
        obtain ⟨va, vc, hvf⟩ := hTv.out.form
        obtain ⟨vl, hvl⟩ : ∃ vl, (ts.take j ++ ts.drop (j + 1)).length = vl := ⟨_, rfl⟩
        rw [hvl] at hvf
        clear hvl
        subst hvf
        obtain ⟨⟨_, _, _, m0⟩, _, _, _, m1⟩ := blk4 kb.out
        have kb2 := hid (set3_block kb.out (.slice va vl vc))
        have kr2 : Hid ((xv.setCell ⟨w.heap.size, 3, none⟩ (.slice va vl vc)).heap[w.heap.size + 1]? = _) := hid ((Below.heap_setCell _ _ _ _ (by show w.heap.size + 1 ≠ w.heap.size; omega)).trans kr.out)
        have hT3 := hid (hTv.out.kt (kt_set kb.out (by decide) 3 (.slice va vl vc)))
        have hb3 := hid ((hbw.out.trans (hB2.out.mono hbw.out.size)).setCell (p := ⟨w.heap.size, 3, none⟩) (Nat.le_refl _) (.slice va vl vc))
        go_simp
        refine hK.out _ _ (.inl rfl) ?_
        clear hK K
        try simp only [Act.put, List.setIfInBounds_toArray, List.set_cons_zero, List.set_cons_succ]
        refine doneK (by kernel_rfl) ?_ _
        refine NoPanic.normal ?_
        clear m0 m1 hTv hB2 hkb hkr kb kr
        generalize xv.setCell ⟨w.heap.size, 3, none⟩ (.slice va vl vc) = wz at kb2 kr2 hT3 hb3 ⊢
        have hfin := hid (fin4 kr2.out hb3.out (by omega) (hT3.out) (.int .i64 n) (.int .i64 m) (.slice fad F fcap))
        obtain ⟨⟨f1, f2, f3, f4⟩, _⟩ := blk4 kb2.out
        obtain ⟨⟨f5, f6, f7, f8⟩, f9, f10, f11, f12⟩ := blk4 kr2.out
        go_wp2_with fail
        refine bodyPost_ret (results_cell2 rfl _ _ (w.heap.size + 1) 32 _ (0, 0) _ rfl hfin.out.1 Tryz.underlying32 rfl (by kernel_rfl)) rfl ?_
        exact ⟨_, _, _, rfl, hdr.out, hfin.out.2.2, hfin.out.2.1⟩
      · have v3 : decide ((-1 : Int) < 0) = true := rfl
        have hdr : Hid (DrIs m ts e 21 ts) := hid (.inr (.inl ⟨hin.out, hno, rfl, rfl⟩))
        clear hno
        have hfin := hid (fin4 kr.out hbw.out (by omega) (hTV.out) (.int .i64 n) (.int .i64 m) (.slice fad F fcap))
        obtain ⟨⟨f1, f2, f3, f4⟩, _⟩ := blk4 kb.out
        obtain ⟨⟨f5, f6, f7, f8⟩, f9, f10, f11, f12⟩ := blk4 kr.out
        go_wp2_with fail
        refine bodyPost_ret (results_cell2 rfl _ _ (w.heap.size + 1) 32 _ (0, 0) _ rfl hfin.out.1 Tryz.underlying32 rfl (by kernel_rfl)) rfl ?_
        exact ⟨_, _, _, rfl, hdr.out, hfin.out.2.2, hfin.out.2.1⟩
    · have v2 : decide (e ≥ m) = true := decide_eq_true (by omega)
      have v2' : decide (m ≤ e) = true := decide_eq_true (by omega)
      have hdr : Hid (DrIs m ts e 12 ts) := hid (.inl ⟨fun q => by omega, rfl, rfl⟩)
      clear h1 h2
      obtain ⟨⟨b0, b1, b2, b3⟩, _⟩ := blk4 kb.out
      go_enter Tryz.func35, Tryz.ntmps35
      go_upto_region 1 with fail
      rw [hw1.out]
      clear hw1
      have hfin := hid (fin4 kr.out hbw.out (by omega) (hTV.out) (.int .i64 n) (.int .i64 m) (.slice fad F fcap))
      obtain ⟨⟨f1, f2, f3, f4⟩, _⟩ := blk4 kb.out
      obtain ⟨⟨f5, f6, f7, f8⟩, f9, f10, f11, f12⟩ := blk4 kr.out
      go_wp2_with fail
      refine bodyPost_ret (results_cell2 rfl _ _ (w.heap.size + 1) 32 _ (0, 0) _ rfl hfin.out.1 Tryz.underlying32 rfl (by kernel_rfl)) rfl ?_
      exact ⟨_, _, _, rfl, hdr.out, hfin.out.2.2, hfin.out.2.1⟩
end Go.Proofs.YtdmkbcbgjdmgdaaGreatDoor.Wd
