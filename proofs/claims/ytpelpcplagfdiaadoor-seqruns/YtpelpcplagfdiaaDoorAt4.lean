/- 'At', walked. -/
import Derived.Test.YtpelpcplagfdiaaDoorList4
import Derived.Deep.RegionHeld3
namespace Go.Proofs.YtpelpcplagfdiaaDoor
open Go.RowKit
set_option linter.unusedVariables false

/-- The closure's variables: the Forest, and how many are still to be passed over. -/
def FBox (w : World) (b fb : Nat) : Prop := w.heap[b]? = some (.cells #[.pointer (some ⟨fb, 0, none⟩)] 24 (0, 0))
def IBox (w : World) (b : Nat) (z : Int) : Prop := w.heap[b]? = some (.cells #[.int .i64 z] 3 (0, 0))

theorem FBox.keep {w w' : World} {b fb : Nat} (h : FBox w b fb) (k : Keep w w') : FBox w' b fb := k b _ _ _ h (by decide) (by decide)
theorem IBox.keep {w w' : World} {b : Nat} {z : Int} (h : IBox w b z) (k : Keep w w') : IBox w' b z := k b _ _ _ h (by decide) (by decide)
theorem FBox.cell {w : World} {b fb : Nat} (h : FBox w b fb) : w.cell? ⟨b, 0, none⟩ = some (.pointer (some ⟨fb, 0, none⟩)) := by unfold World.cell?; rw [h]; simp
theorem IBox.cell {w : World} {b : Nat} {z : Int} (h : IBox w b z) : w.cell? ⟨b, 0, none⟩ = some (.int .i64 z) := by unfold World.cell?; rw [h]; simp
theorem IBox.fro {w : World} {b : Nat} {z : Int} (h : IBox w b z) : w.frozen? ⟨b, 0, none⟩ = false := by unfold World.frozen?; rw [h]; simp

section
variable {lo fb n nb N : Nat} {w w0 wr : World} {T : Tb} {v : Nat → Int} {sub seq : Nat → List Nat}

theorem HS.setI (h : HS lo w w0 fb n nb N T v sub seq wr) {b : Nat} {z : Int} (hb : IBox wr b z) (h0 : w0.heap.size ≤ b) (hlo : lo ≤ b) (z' : Int) : HS lo w w0 fb n nb N T v sub seq (wr.setCell ⟨b, 0, none⟩ (.int .i64 z')) ∧ IBox (wr.setCell ⟨b, 0, none⟩ (.int .i64 z')) b z' ∧ (∀ k fb', FBox wr k fb' → FBox (wr.setCell ⟨b, 0, none⟩ (.int .i64 z')) k fb') := by
  have ht : Turned (fun k => k = b) wr (wr.setCell ⟨b, 0, none⟩ (.int .i64 z')) := (Turned.refl (fun k => k = b) wr).setCell (p := ⟨b, 0, none⟩) rfl _
  have nf : fb ≠ b := fun e => by
    have := h.fo.self
    rw [e, hb] at this
    injection this with this; injection this with _ this; exact absurd this (by decide)
  have nn : nb ≠ b := fun e => by
    have := h.fo.nodes
    rw [e, hb] at this
    injection this with this; injection this with _ this; exact absurd this (by decide)
  refine ⟨⟨h.fo.of ht nf nn, h.gd, h.hN, h.nlo, h.flo, h.below.trans (ht.below (fun j hj => by rw [hj]; exact hlo) (Nat.le_trans h.lw h.below.size)), h.n1, h.n2, h.lw, fun k cs t fr hk h1 h2 => ?_⟩, ?_, fun k fb' hk => ?_⟩
  · have h3 := h.keep k cs t fr hk h1 h2
    have := (Array.getElem?_eq_some_iff.1 hk).1
    rw [Below.heap_setCell _ _ _ _ (by simp; omega)]
    exact h3
  · unfold IBox World.setCell
    rw [Array.getElem?_modify, if_pos rfl, hb]
    simp
  · unfold FBox
    rw [Below.heap_setCell _ _ _ _ (fun e => by
      have e : k = b := e
      have hk' : wr.heap[k]? = _ := hk
      rw [e, hb] at hk'
      injection hk' with hk'; injection hk' with _ hk'; exact absurd hk' (by decide))]
    exact hk

set_option maxRecDepth 100000 in
set_option maxHeartbeats 1000000 in
/-- The closure, one of three ways. -/
theorem at1_ok (h : HS lo w w0 fb n nb N T v sub seq wr) (x bf bl : Nat) (hx : x < N) (d m : Nat) (hf : FBox wr bf fb) (hl : IBox wr bl (d : Int)) (hm : (sub (T x).l).length = m) (hd : d ≤ 8388700) (h0 : w0.heap.size ≤ bl) (hlo : lo ≤ bl) :
    Calls Tryd.prog 53 #[.int .i32 (x : Int), .pointer (some ⟨bf, 0, none⟩), .pointer (some ⟨bl, 0, none⟩)] wr fun e w' => ∃ (c : Int) (d' : Nat), e = .returned (.int .i64 c) ∧ HS lo w w0 fb n nb N T v sub seq w' ∧ FBox w' bf fb ∧ IBox w' bl (d' : Int) ∧ ((d < m ∧ c = 0 ∧ d' = d) ∨ (d = m ∧ c = 2 ∧ d' = d) ∨ (m < d ∧ c = 1 ∧ d' = d - (m + 1))) := by
  have hml := h.gd.len (T x).l
  have hbig := h.fo.big
  rw [hm] at hml
  have hc := hf.cell
  have hcl := hl.cell
  have hfr := hl.fro
  have hle := leads_ok fb nb n N x T v sub seq wr h.fo h.gd hx
  rw [hm] at hle
  have hle := hid hle
  have hS := hid (h.setI hl h0 hlo ((d : Int) - ((m : Int) + 1)))
  have h := hid h
  have hf := hid hf
  have hl := hid hl
  clear hm
  rcases Nat.lt_trichotomy d m with hlt | rfl | hgt
  · have t1 : decide ((d : Int) < (m : Int)) = true := decide_eq_true (by omega)
    go_enter Tryd.func53, Tryd.ntmps53
    go_wp2_with fail
    refine hle.out.mono ?_
    rintro e w' ⟨rfl, rfl⟩
    go_wp2_with fail
    go_ret
    exact ⟨0, d, rfl, h.out, hf.out, hl.out, Or.inl ⟨hlt, rfl, rfl⟩⟩
  · have t1 : decide ((d : Int) < (d : Int)) = false := decide_eq_false (by omega)
    go_enter Tryd.func53, Tryd.ntmps53
    go_wp2_with fail
    refine hle.out.mono ?_
    rintro e w' ⟨rfl, rfl⟩
    go_wp2_with fail
    go_ret
    exact ⟨2, d, rfl, h.out, hf.out, hl.out, Or.inr (Or.inl (by simp))⟩
  · have t1 : decide ((d : Int) < (m : Int)) = false := decide_eq_false (by omega)
    have t2 : ((d : Int) == (m : Int)) = false := by rw [beq_eq_false_iff_ne]; omega
    go_enter Tryd.func53, Tryd.ntmps53
    go_wp2_with fail
    refine hle.out.mono ?_
    rintro e w' ⟨rfl, rfl⟩
    go_wp2_with fail
    go_ret
    refine ⟨1, d - (m + 1), rfl, hS.out.1, hS.out.2.2 _ _ hf.out, ?_, Or.inr (Or.inr ⟨hgt, rfl, rfl⟩)⟩
    have := hS.out.2.1
    rw [show (d : Int) - ((m : Int) + 1) = ((d - (m + 1) : Nat) : Int) from by omega] at this
    rw [show (d : Int) - ((m : Int) + 1) = ((d - (m + 1) : Nat) : Int) from by omega]
    exact this

/-- The k-th one of a sequence is found, and brought to the top. -/
theorem HS.kth (h : HS lo w w0 fb n nb N T v sub seq wr) (x bf bl k : Nat) (hx0 : x ≠ 0) (hx : x < N) (hu : (T x).up = 0) (hk : k < (seq x).length) (hf : FBox wr bf fb) (hl : IBox wr bl (k : Int)) (h0 : w0.heap.size ≤ bl) (hlo : lo ≤ bl) :
    Calls Tryd.prog 22 #[.pointer (some ⟨fb, 0, none⟩), .int .i32 (x : Int), .func (.func 53) #[] #[.pointer (some ⟨bf, 0, none⟩), .pointer (some ⟨bl, 0, none⟩)]] wr fun e w' => ∃ (p : Nat) (T' : Tb) (sub' : Nat → List Nat), e = .returned (.int .i32 (p : Int)) ∧ p ≠ 0 ∧ p < N ∧ HS lo w w0 fb n nb N T' v sub' seq w' ∧ (seq x)[k]? = some p := by
  have hr := h.gd.inv.root x hx0 hu
  have hkl : k ≤ 8388700 := by have := h.gd.seq_len hx0; have := h.fo.big; omega
  refine (seek_at (.pointer (some ⟨bf, 0, none⟩)) (.pointer (some ⟨bl, 0, none⟩)) fb nb n N v seq lo w w0 (fun T sub y _ => ∃ A B, seq x = A ++ y :: B ∧ A.length = k) x wr
    (descend_at (.pointer (some ⟨bf, 0, none⟩)) (.pointer (some ⟨bl, 0, none⟩)) fb nb n N v seq lo w w0 (fun T sub y wy => FBox wy bf fb ∧ ∃ pre post, seq x = pre ++ sub y ++ post ∧ pre.length ≤ k ∧ k < pre.length + (sub y).length ∧ IBox wy bl ((k - pre.length : Nat) : Int)) _ ?_ ?_ x T sub wr h hx0 hx ⟨hf, [], [], by rw [hr]; simp, by simp, by rw [hr] at hk; simpa using hk, by simpa using hl⟩)).mono ?_
  · rintro T1 sub1 T2 sub2 y y1 y2 h1 ⟨f1, pre, post, e1, e2, e3, i1⟩ hy m s t h2
    have kk := Keep.ofNodes h1.fo t
    have es := s.self h1.gd.inv hy
    exact ⟨f1.keep kk, pre, post, by rw [es]; exact e1, e2, by rw [es]; exact e3, i1.keep kk⟩
  · rintro T1 sub1 y y1 h1 ⟨f1, pre, post, e1, e2, e3, i1⟩ hy hyN ht
    have ef := h1.gd.inv.flat hy ht
    have el : (T1 y).k false = (T1 y).l := rfl
    have er : (T1 y).k true = (T1 y).r := rfl
    refine (at1_ok h1 y bf bl hyN (k - pre.length) _ f1 i1 rfl (by omega) h0 hlo).mono ?_
    rintro e y2 ⟨c, d', rfl, h2, f2, i2, hc⟩
    rw [el, er] at ef
    have hlen : (sub1 y).length = (sub1 (T1 y).l).length + 1 + (sub1 (T1 y).r).length := by rw [ef]; simp; omega
    refine ⟨c, rfl, h2, ?_⟩
    rcases hc with ⟨g1, rfl, rfl⟩ | ⟨g1, rfl, rfl⟩ | ⟨g1, rfl, rfl⟩
    · refine Or.inr ⟨false, rfl, fun hz => ?_, fun hz => ⟨f2, pre, y :: sub1 (T1 y).r ++ post, ?_, e2, ?_, i2⟩⟩
      · rw [el] at hz; rw [hz, h1.gd.inv.sub0] at g1; simp at g1
      · rw [e1, ef, el]; simp
      · rw [el]; omega
    · exact Or.inl ⟨rfl, pre ++ sub1 (T1 y).l, sub1 (T1 y).r ++ post, by rw [e1, ef]; simp, by simp; omega⟩
    · refine Or.inr ⟨true, rfl, fun hz => ?_, fun hz => ⟨f2, pre ++ sub1 (T1 y).l ++ [y], post, ?_, ?_, ?_, ?_⟩⟩
      · rw [er] at hz; rw [hz, h1.gd.inv.sub0] at hlen; simp at hlen; omega
      · rw [e1, ef, er]; simp
      · simp; omega
      · rw [er]; simp; omega
      · have : k - (pre ++ sub1 (T1 y).l ++ [y]).length = k - pre.length - ((sub1 (T1 y).l).length + 1) := by simp; omega
        rw [this]; exact i2
  · rintro e w' ⟨p, T', sub', rfl, hp0, hp, h', u', t', _, _, _, A, B, hA, hk'⟩
    refine ⟨p, T', sub', rfl, hp0, hp, h', ?_⟩
    rw [hA, List.getElem?_append_right (by omega), hk']
    simp

set_option maxRecDepth 100000 in
set_option maxHeartbeats 2000000 in
theorem FS.at (h : FS lo w fb n v seq w0) (x k : Nat) (hx : x < n) (hk : k < (seq (x + 1)).length) :
    Calls Tryd.prog 34 #[.pointer (some ⟨fb, 0, none⟩), .int .i64 (x : Int), .int .i64 (k : Int)] w0 fun e w' => ∃ d : Nat, (seq (x + 1))[k]? = some (d + 1) ∧ e = .returned (.tuple #[.int .i64 (d : Int), .nilIface]) ∧ FS lo w fb n v seq w' ∧ Keep w0 w' := by
  have hs := hid ((h.alloc (.cells #[.pointer (some ⟨fb, 0, none⟩)] 24)).sizeH x hx)
  have hb0 : Hid (FBox (w0.alloc (.cells #[.pointer (some ⟨fb, 0, none⟩)] 24)) w0.heap.size fb) := hid (heap_alloc_new w0 _)
  have hc0 := hb0.out.cell
  have kb := hid ((Keep.refl w0).alloc (.cells #[.pointer (some ⟨fb, 0, none⟩)] 24))
  obtain ⟨M, hM⟩ : ∃ M, (seq (x + 1)).length = M := ⟨_, rfl⟩
  rw [hM] at hs hk
  have hMh := hid hM
  have hpl : M ≤ 8388610 := by
    obtain ⟨nb, N, T, sub, _, hg, hN, _⟩ := h.st
    have := hg.seq_len (x := x + 1) (by omega)
    have := hg.big
    omega
  have t1 : decide ((k : Int) < 0) = false := decide_eq_false (by omega)
  have t2 : decide ((M : Int) ≤ (k : Int)) = false := decide_eq_false (by omega)
  clear h hM
  go_enter Tryd.func34, Tryd.ntmps34
  go_wp2_with fail
  refine hs.out.mono ?_
  rintro e w1 ⟨rfl, nb, N, T, sub, h1, hxN⟩
  have hb1 := hid (hb0.out.keep h1.keep)
  have hc1 := hb1.out.cell
  have k1 := hid (kb.out.trans h1.keep)
  have hszlo := Nat.le_trans h1.lw h1.below.size
  have h2 := hid (h1.re.alloc (.cells #[.int .i64 (k : Int)] 3))
  have hb2 := hid (hb1.out.keep ((Keep.refl w1).alloc (.cells #[.int .i64 (k : Int)] 3)))
  have hi2 : Hid (IBox (w1.alloc (.cells #[.int .i64 (k : Int)] 3)) w1.heap.size (k : Int)) := hid (heap_alloc_new w1 _)
  clear hs hb0 hc0 h1
  go_wp2_with fail
  have hsz : w1.heap.size ≤ w1.heap.size := Nat.le_refl _
  generalize hbl : w1.heap.size = bl at hi2 hsz hszlo ⊢
  generalize w1.alloc (.cells #[.int .i64 (k : Int)] 3) = w2 at h2 hb2 hi2 ⊢
  obtain ⟨X, hX⟩ : ∃ X, x + 1 = X := ⟨_, rfl⟩
  have hXh := hid hX
  have hX0 : X ≠ 0 := by omega
  have htop := hid (h2.out.drew.re.top x hxN)
  rw [hX] at htop hMh hxN
  obtain ⟨bf, hbf⟩ : ∃ bf, w0.heap.size = bf := ⟨_, rfl⟩
  rw [hbf] at hb1 hb2 hc1
  rw [hbf]
  have hcw := hb2.out.cell
  clear hX hbf hc1
  go_region_held3 (fun w' => w'.cell? ⟨bf, 0, none⟩ = some (.pointer (some ⟨fb, 0, none⟩))) (first | assumption | exact hcw | go_keep) (first
    | (go_at_call 20; refine htop.out.mono ?_; rintro e w3 ⟨rfl, T3, sub3, h3, m3, u3, t3⟩; have kk : Keep w2 w3 := h3.keep; have hb3 := hid (hb2.out.keep kk); have hi3 := hid (hi2.out.keep kk); have hc3 := hb3.out.cell; have h3 := hid (h3.back h2.out.keep); have u3 := hid u3; clear m3 t3 kk)
    | (go_at_call 22; refine (h3.out.kth X bf bl k hX0 hxN u3.out (by rw [hMh.out]; exact hk) hb3.out hi3.out (by omega) (by omega)).mono ?_; rintro e w4 ⟨p, T4, sub4, rfl, hp0, hpN, h4, hkp⟩; have hc4 := (hb1.out.keep h4.keep).cell; have fin := hid (And.intro h4 (And.intro hp0 hkp)); clear h4 hp0 hkp))
  all_goals
    obtain ⟨d, rfl⟩ : ∃ d, p = d + 1 := ⟨p - 1, by have := fin.out.2.1; omega⟩
    rw [show ((d + 1 : Nat) : Int) = (d : Int) + 1 from by omega]
    have hit := item_ok d (by have := fin.out.1.fo.big; omega) w4
    rw [show ((d + 1 : Nat) : Int) = (d : Int) + 1 from by omega] at hit
    have hit := hid hit
    clear hcw hc3 hc4
    go_wp2_with fail
    refine hit.out.mono ?_
    rintro e w5 ⟨rfl, rfl⟩
    go_wp2_with fail
    go_ret2
    exact ⟨d, by rw [hXh.out]; exact fin.out.2.2, rfl, fin.out.1.end_, k1.out.trans fin.out.1.keep⟩

set_option maxRecDepth 100000 in
set_option maxHeartbeats 1000000 in
theorem FS.at_out (h : FS lo w fb n v seq w0) (x : Nat) (k : Int) (hx : x < n) (hk : ¬ (0 ≤ k ∧ k < ((seq (x + 1)).length : Int))) :
    Calls Tryd.prog 34 #[.pointer (some ⟨fb, 0, none⟩), .int .i64 (x : Int), .int .i64 k] w0 fun e w' => e = .returned (.tuple #[.int .i64 0, .iface 50 (.int .i64 1)]) ∧ FS lo w fb n v seq w' ∧ Keep w0 w' := by
  have hs := hid ((h.alloc (.cells #[.pointer (some ⟨fb, 0, none⟩)] 24)).sizeH x hx)
  have kb := hid ((Keep.refl w0).alloc (.cells #[.pointer (some ⟨fb, 0, none⟩)] 24))
  obtain ⟨M, hM⟩ : ∃ M, (seq (x + 1)).length = M := ⟨_, rfl⟩
  rw [hM] at hs hk
  have hM63 : M ≤ 8388610 := by
    obtain ⟨nb, N, T, sub, _, hg, hN, _⟩ := h.st
    have := hg.seq_len (x := x + 1) (by omega)
    have := hg.big
    omega
  clear h hM
  by_cases h0 : k < 0
  · have t1 : decide (k < 0) = true := decide_eq_true h0
    go_enter Tryd.func34, Tryd.ntmps34
    go_wp2_with fail
    refine hs.out.mono ?_
    rintro e w1 ⟨rfl, nb, N, T, sub, h1, hxN⟩
    have fin := hid (And.intro h1.end_ (kb.out.trans h1.keep))
    clear h1
    go_wp2_with fail
    go_ret2
    exact ⟨rfl, fin.out⟩
  · have t1 : decide (k < 0) = false := decide_eq_false h0
    have t2 : decide ((M : Int) ≤ k) = true := decide_eq_true (by omega)
    go_enter Tryd.func34, Tryd.ntmps34
    go_wp2_with fail
    refine hs.out.mono ?_
    rintro e w1 ⟨rfl, nb, N, T, sub, h1, hxN⟩
    have fin := hid (And.intro h1.end_ (kb.out.trans h1.keep))
    clear h1
    go_wp2_with fail
    go_ret2
    exact ⟨rfl, fin.out⟩

end

end Go.Proofs.YtpelpcplagfdiaaDoor
