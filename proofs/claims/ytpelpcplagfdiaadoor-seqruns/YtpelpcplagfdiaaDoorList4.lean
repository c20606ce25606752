/- 'List', walked. -/
import Derived.Test.YtpelpcplagfdiaaDoorNext4
import Derived.Deep.AppendLies
import Derived.OwnWalk
namespace Go.Proofs.YtpelpcplagfdiaaDoor
open Go.RowKit
set_option linter.unusedVariables false

theorem infoInt : (Tryd.prog.info? 3).map (fun i => (i.zero, i.size, i.bytes)) = some (some (.int .i64 0), 1, 8) := by kernel_rfl

/-- A node's item as a cell. -/
def itm (d : Nat) : Value := .int .i64 ((d : Int) - 1)

theorem itm_one (l : List Nat) : ∀ u ∈ l.map itm, u.oneCell' = true := by
  intro u hu
  obtain ⟨d, _, rfl⟩ := List.mem_map.1 hu
  rfl

/-- A row of one's own of the items of these nodes. -/
def Rw (w : World) (v : Value) (l : List Nat) : Prop := ∃ base, w.ownsRow base 3 1 v l.length (l.map itm)

theorem Keep.row {w w' : World} (h : Keep w w') {base n : Nat} {v : Value} {xs : List Value} (ho : w.ownsRow base 3 1 v n xs) : w'.ownsRow base 3 1 v n xs := by
  refine ⟨ho.1, ?_⟩
  rcases ho.2 with hn | ⟨g, cap, cur, rfl, hb, hgg, rest⟩
  · exact .inl hn
  · exact .inr ⟨g, cap, cur, rfl, hb, h g _ _ _ hgg (by decide) (by decide), rest⟩

theorem Rw.keep {w w' : World} {v : Value} {l : List Nat} (h : Rw w v l) (k : Keep w w') : Rw w' v l := by
  obtain ⟨base, ho⟩ := h
  exact ⟨base, k.row ho⟩

theorem Rw.below {w w' : World} {v : Value} {l : List Nat} (h : Rw w v l) (hb : Below w.heap.size w w') : Rw w' v l := h.keep (Keep.ofBelow hb)

theorem Rw.form {w : World} {v : Value} {l : List Nat} (h : Rw w v l) : ∃ ad cap, v = .slice ad l.length cap ∧ (ad = none → l = []) ∧ ∀ a, ad = some a → ∃ g, a = ⟨g, 0, none⟩ ∧ ∀ (j d : Nat), l[j]? = some d → w.cell? ⟨g, j, none⟩ = some (itm d) := by
  obtain ⟨base, ho⟩ := h
  rcases ho.2 with ⟨rfl, hn⟩ | ⟨g, cap, cur, rfl, _⟩
  · refine ⟨none, 0, by rw [hn], fun _ => List.eq_nil_of_length_eq_zero hn, fun a e => by cases e⟩
  · refine ⟨some ⟨g, 0, none⟩, cap, rfl, (fun e => by cases e), fun a e => ⟨g, (Option.some.inj e).symm, fun j d hd => ?_⟩⟩
    have hj := (List.getElem?_eq_some_iff.1 hd).1
    rw [ho.cellAt j (by simpa using hj)]
    simp [hd]

section
variable {lo fb n nb N : Nat} {w w0 wr : World} {T : Tb} {v : Nat → Int} {sub seq : Nat → List Nat}

theorem HS.re (h : HS lo w w0 fb n nb N T v sub seq wr) : HS lo w wr fb n nb N T v sub seq wr := ⟨h.fo, h.gd, h.hN, h.nlo, h.flo, h.below, h.n1, h.n2, h.lw, Keep.refl _⟩

theorem HS.back {w1 : World} (h : HS lo w w1 fb n nb N T v sub seq wr) (k : Keep w0 w1) : HS lo w w0 fb n nb N T v sub seq wr := ⟨h.fo, h.gd, h.hN, h.nlo, h.flo, h.below, h.n1, h.n2, h.lw, k.trans h.keep⟩

theorem HS.grown (h : HS lo w w0 fb n nb N T v sub seq wr) {base k : Nat} {u : Value} {xs : List Value} {w' : World} (ho : wr.ownsRow base 3 1 u k xs) (hg : wr.grownBy w' u.ownBlock) (hb : w0.heap.size ≤ base) (hlo : lo ≤ base) : HS lo w w0 fb n nb N T v sub seq w' := by
  have hty : ∀ j, u.ownBlock = some j → base ≤ j ∧ ∃ cs fr, wr.heap[j]? = some (.cells cs 3 fr) := by
    intro j hj
    have hlt := ho.lt j hj
    rcases ho.2 with ⟨rfl, _⟩ | ⟨g, cap, cur, rfl, _, hgg, _⟩
    · simp [Value.ownBlock] at hj
    · simp [Value.ownBlock] at hj
      subst hj
      exact ⟨hlt.1, _, _, hgg⟩
  have ht : Turned (fun j => u.ownBlock = some j) wr w' := ⟨hg.os, hg.tape, hg.output, hg.size, fun k hk ho => hg.block k hk (fun e => ho e.symm)⟩
  have nf : ¬ u.ownBlock = some fb := fun e => by
    obtain ⟨_, cs, fr, e2⟩ := hty fb e
    rw [h.fo.self] at e2
    injection e2 with e2; injection e2 with _ e2; exact absurd e2 (by decide)
  have nn : ¬ u.ownBlock = some nb := fun e => by
    obtain ⟨_, cs, fr, e2⟩ := hty nb e
    rw [h.fo.nodes] at e2
    injection e2 with e2; injection e2 with _ e2; exact absurd e2 (by decide)
  refine ⟨h.fo.of ht nf nn, h.gd, h.hN, h.nlo, h.flo, h.below.trans (ht.below (fun j hj => by have := (hty j hj).1; omega) (Nat.le_trans h.lw h.below.size)), h.n1, h.n2, h.lw, fun k cs t fr hk h1 h2 => ?_⟩
  have h3 := h.keep k cs t fr hk h1 h2
  refine (hg.block k (Array.getElem?_eq_some_iff.1 h3).1 (fun e => ?_)).trans h3
  have := (hty k e.symm).1
  have := (Array.getElem?_eq_some_iff.1 hk).1
  omega

theorem row_slice {w : World} {base : Nat} {e : TypeId} {size n : Nat} {v : Value} {xs : List Value} (h : w.ownsRow base e size v n xs) : ∃ ad cap, v = .slice ad n cap := by
  rcases h.2 with ⟨rfl, rfl⟩ | ⟨g, cap, cur, rfl, _⟩
  · exact ⟨_, _, rfl⟩
  · exact ⟨_, _, rfl⟩

def lenV : Value → Nat
  | .slice _ n _ => n
  | _ => 0

theorem itm_new (w : World) (x : Nat) : ∀ j u, ([x + 1].map itm)[j]? = some u → (w.alloc (.cells #[.int .i64 (x : Int)] 3)).cell? ((⟨w.heap.size, 0, none⟩ : Addr).add j) = some u := by
  intro j u hu
  have hj : j = 0 := by
    have := (List.getElem?_eq_some_iff.1 hu).1
    simp at this; omega
  subst hj
  have hn := heap_alloc_new w (.cells #[.int .i64 (x : Int)] 3)
  simp [itm] at hu
  subst hu
  show (w.alloc _).cell? ((⟨w.heap.size, 0, none⟩ : Addr).add 0) = _
  rw [show (⟨w.heap.size, 0, none⟩ : Addr).add 0 = ⟨w.heap.size, 0, none⟩ from by unfold Addr.add; simp]
  unfold World.cell?
  rw [hn]
  simp

/-- A row of these nodes' items, newer than all that w0 holds. -/
def Rn (w0 w : World) (u : Value) (l : List Nat) : Prop := ∃ base, (∀ (k : Nat) (cs : Array Value) (t : TypeId) (fr : Nat × Nat), w0.heap[k]? = some (.cells cs t fr) → t ≠ 53 → t ≠ 57 → k < base) ∧ w.ownsRow base 3 1 u l.length (l.map itm)

set_option maxRecDepth 100000 in
set_option maxHeartbeats 4000000 in
theorem FS.listN (h : FS lo w fb n v seq w0) (x : Nat) (hx : x < n) :
    Calls Tryd.prog 35 #[.pointer (some ⟨fb, 0, none⟩), .int .i64 (x : Int)] w0 fun e w' => ∃ u, e = .returned (.tuple #[u, .nilIface]) ∧ Rn w0 w' u (seq (x + 1)) ∧ FS lo w fb n v seq w' ∧ Keep w0 w' := by
  obtain ⟨i0, hif, hz0, hz1, hz2⟩ := info_parts infoInt
  have hs := hid (h.sizeH x hx)
  clear h
  go_enter Tryd.func35, Tryd.ntmps35
  go_wp2_with fail
  refine hs.out.mono ?_
  rintro e w1 ⟨rfl, nb, N, T, sub, h1, hxN⟩
  obtain ⟨X, hX⟩ : ∃ X, x + 1 = X := ⟨_, rfl⟩
  have hXh := hid hX
  have hX0 : X ≠ 0 := by omega
  have hSl := h1.gd.seq_len hX0
  have hbig := h1.fo.big
  obtain ⟨S, hS⟩ : ∃ S, seq X = S := ⟨_, rfl⟩
  have hSh := hid hS
  rw [hX, hS]
  rw [hS] at hSl
  have k1 := hid h1.keep
  have hsz := Nat.le_trans h1.lw h1.below.size
  have h1 := hid h1.re
  clear hs hS
  go_wp2_with (at_make; refine wpList_make_own _ rfl (.const (.int .i64 0)) (.tmp 19) 58 rfl w1.heap.size 3 i0 (.int .i64 0) 1 Tryd.underlying58 hif hz0 hz1 .i64 .i64 _ S.length rfl rfl rfl (by rw [hz2]; omega) (by unfold maxLen; omega) (Nat.le_refl _) ?_; intro w2 hown hgrow; refine Hid.out ?_)
  have h2 := hid (h1.out.grown (World.ownsRow_nil w1 w1.heap.size 3 1) hgrow (Nat.le_refl _) hsz)
  have hown := hid hown
  clear hgrow h1
  refine hid ?_
  go_wp2_with fail
  refine (h2.out.re.top x hxN).mono ?_
  rintro e w3 ⟨rfl, T3, sub3, h3, m3, u3, t3⟩
  rw [hX] at u3 m3 hxN
  rw [hX]
  have ho3 := hid (h3.keep.row hown.out)
  have h3 := hid (h3.back h2.out.keep)
  have u3 := hid u3
  have htw := toward_ok false w3
  rw [show sI false = 0 from rfl] at htw
  have htw := hid htw
  clear hown h2 m3 t3 hX
  go_wp2_with fail
  refine htw.out.mono ?_
  rintro e w4 ⟨rfl, hw4⟩
  have h4 : Hid (HS lo w w1 fb n nb N T3 v sub3 seq w4) := by rw [hw4]; exact h3.out.alloc _
  have ho4 : Hid (w4.ownsRow w1.heap.size 3 1 (.slice (some ⟨w1.heap.size, 0, none⟩) 0 S.length) 0 []) := by rw [hw4]; exact ((Keep.refl w3).alloc _).row ho3.out
  have hb : Hid (Box w4 w3.heap.size false) := by rw [hw4]; exact heap_alloc_new w3 _
  generalize w3.heap.size = bb at hb ⊢
  clear hw4 h3 ho3 htw
  go_wp2_with fail
  refine (h4.out.re.firstOf X bb hxN [] ⟨[], Path.root X hX0 u3.out⟩ hb.out).mono ?_
  rintro e w5 ⟨z, T5, sub5, rfl, hz0, hzN, h5, t5, l5, es5, hPz⟩
  have ho5 := hid (h5.keep.row ho4.out)
  have st5 : Hid (∃ T1 sub1 done, HS lo w w1 fb n nb N T1 v sub1 seq w5 ∧ w5.ownsRow w1.heap.size 3 1 (.slice (some ⟨w1.heap.size, 0, none⟩) 0 S.length) done.length (done.map itm) ∧ (∃ g cap, Value.slice (some ⟨w1.heap.size, 0, none⟩) 0 S.length = .slice (some ⟨g, 0, none⟩) done.length cap) ∧ z < N ∧ ((z = 0 ∧ done = S) ∨ (z ≠ 0 ∧ seq z = S ∧ (T1 z).t = false ∧ ∃ pre, (∃ post, Path T1 sub1 z pre post) ∧ pre ++ sub1 (T1 z).l = done))) :=
    ⟨T5, sub5, [], h5.back h4.out.keep, ho5.out, ⟨_, _, rfl⟩, hzN, Or.inr ⟨hz0, es5.trans hSh.out, t5, [], hPz, by rw [l5, h5.gd.inv.sub0]; rfl⟩⟩
  clear ho4 h4 hb h5 t5 l5 hPz ho5 es5 hz0 u3
  go_wp2_with fail
  go_loopw [8, 9] (fun o u wr => ∃ a : Nat, u = .int .i32 (a : Int) ∧ Hid (∃ T1 sub1 done, HS lo w w1 fb n nb N T1 v sub1 seq wr ∧ wr.ownsRow w1.heap.size 3 1 o done.length (done.map itm) ∧ (∃ g cap, o = .slice (some ⟨g, 0, none⟩) done.length cap) ∧ a < N ∧ ((a = 0 ∧ done = S) ∨ (a ≠ 0 ∧ seq a = S ∧ (T1 a).t = false ∧ ∃ pre, (∃ post, Path T1 sub1 a pre post) ∧ pre ++ sub1 (T1 a).l = done)))) (fun o _ _ => S.length + 1 - lenV o)
  case atStart => exact ⟨z, rfl, st5⟩
  case round =>
    clear st5
    obtain ⟨a, rfl, hst⟩ := hrel
    obtain ⟨T1, sub1, done, h1, ho, ⟨og, ocap, hov⟩, haN, hc⟩ := hst.out
    rcases hc with ⟨rfl, rfl⟩ | ⟨ha0, hsa, hta, pre, hP, hdone⟩
    · clear hov
      have fin := hid (And.intro h1 ho)
      clear hst h1 ho
      go_wp2_with fail
      go_ret2
      exact ⟨_, rfl, ⟨_, fun k cs t fr hk e1 e2 => (Array.getElem?_eq_some_iff.1 (k1.out k cs t fr hk e1 e2)).1, by rw [hXh.out, hSh.out]; exact fin.out.2⟩, fin.out.1.end_, k1.out.trans fin.out.1.keep⟩
    · have ta : ((a : Int) != 0) = true := by simp; omega
      obtain ⟨y, rfl⟩ : ∃ y, a = y + 1 := ⟨a - 1, by omega⟩
      have hlt : done.length + 1 ≤ S.length := by
        obtain ⟨post, hP⟩ := hP
        have e1 := hP.seq_is h1.gd.inv
        have e2 := h1.gd.inv.flat ha0 hta
        rw [show (T1 (y + 1)).k false = (T1 (y + 1)).l from rfl] at e2
        rw [hsa, e2] at e1
        rw [e1, ← hdone]
        simp; omega
      subst hov
      have hdh := hid (And.intro hsa (And.intro hta (And.intro hP hdone)))
      have h1 := hid h1
      have ho := hid ho
      clear hst hsa hta hP hdone
      go_wp2_with fail
      refine (item_ok y (by omega) _).mono ?_
      rintro e w6 ⟨rfl, rfl⟩
      have hrow := ho.out.alloc (.cells #[.int .i64 (y : Int)] 3)
      have hszr : w1.heap.size < wr.heap.size := by have := ho.out.lt og rfl; omega
      go_wp2_with (at_builtin; refine wpList_append_lies _ rfl (.tmp 32) (.tmp 35) 58 rfl w1.heap.size 3 i0 _ 1 8 Tryd.underlying58 hif hz0 hz1 hz2 rfl (by decide) _ _ _ rfl hrow ⟨wr.heap.size, 0, none⟩ 1 1 ([y + 1].map itm) rfl rfl (itm_new wr y) (itm_one _) (by decide) (by unfold maxLen; omega) (by omega) (by simp; omega) _ rfl ?_; intro g5 cap5 w7 hown5 hgrow5 hg5 hlt5; refine Hid.out ?_)
      have h7 := hid ((h1.out.alloc (.cells #[.int .i64 (y : Int)] 3)).grown hrow hgrow5 (Nat.le_refl _) hsz)
      have ho7 : Hid (w7.ownsRow w1.heap.size 3 1 (.slice (some ⟨g5, 0, none⟩) (done ++ [y + 1]).length cap5) (done ++ [y + 1]).length ((done ++ [y + 1]).map itm)) := hid (by
        rw [List.map_append, List.length_append]; exact hown5)
      have hn := h7.out.re.next (y + 1) haN pre hdh.out.2.2.1 hdh.out.2.1
      rw [show ((y + 1 : Nat) : Int) = (y : Int) + 1 from by omega] at hn
      have hn := hid hn
      clear hrow hown5 hgrow5 hg5 h1 ho
      refine hid ?_
      go_wp2_with fail
      refine hn.out.mono ?_
      rintro e w8 ⟨z8, T8, sub8, rfl, hz8, h8, hc8⟩
      have st8 : Hid (∃ T1 sub1 done', HS lo w w1 fb n nb N T1 v sub1 seq w8 ∧ w8.ownsRow w1.heap.size 3 1 (.slice (some ⟨g5, 0, none⟩) (done.length + 1) cap5) done'.length (done'.map itm) ∧ (∃ g cap, Value.slice (some ⟨g5, 0, none⟩) (done.length + 1) cap5 = .slice (some ⟨g, 0, none⟩) done'.length cap) ∧ z8 < N ∧ ((z8 = 0 ∧ done' = S) ∨ (z8 ≠ 0 ∧ seq z8 = S ∧ (T1 z8).t = false ∧ ∃ pre, (∃ post, Path T1 sub1 z8 pre post) ∧ pre ++ sub1 (T1 z8).l = done'))) := by
        have hl : (done ++ [y + 1]).length = done.length + 1 := by simp
        have hr8 := h8.keep.row ho7.out
        rw [hl] at hr8
        refine ⟨T8, sub8, done ++ [y + 1], h8.back h7.out.keep, by rw [hl]; exact hr8, ⟨_, _, by rw [hl]⟩, hz8, ?_⟩
        rcases hc8 with ⟨e1, e2⟩ | ⟨e1, e2, e3, pre', e4, e5⟩
        · exact Or.inl ⟨e1, by rw [← hdh.out.1, e2, hdh.out.2.2.2]⟩
        · exact Or.inr ⟨e1, e2.trans hdh.out.1, e3, pre', e4, by rw [e5, hdh.out.2.2.2]⟩
      clear h7 ho7 hn h8 hc8
      go_wp2_with fail
      go_roundw
      case rel => exact ⟨z8, rfl, st8⟩
      case measure => simp [lenV]; omega

theorem FS.list (h : FS lo w fb n v seq w0) (x : Nat) (hx : x < n) :
    Calls Tryd.prog 35 #[.pointer (some ⟨fb, 0, none⟩), .int .i64 (x : Int)] w0 fun e w' => ∃ u, e = .returned (.tuple #[u, .nilIface]) ∧ Rw w' u (seq (x + 1)) ∧ FS lo w fb n v seq w' ∧ Keep w0 w' := by
  refine (h.listN x hx).mono ?_
  rintro e w' ⟨u, rfl, ⟨base, _, hr⟩, h1, k1⟩
  exact ⟨u, rfl, ⟨base, hr⟩, h1, k1⟩
end

end Go.Proofs.YtpelpcplagfdiaaDoor
