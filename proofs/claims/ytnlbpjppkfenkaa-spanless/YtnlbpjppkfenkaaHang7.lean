/- 'hang', walked: a top hung on another one. -/
import Derived.Test.YtnlbpjppkfenkaaReach7
import Derived.Deep.CutBlock
namespace Go.Proofs.Ytnlbpjppkfenkaa
open Go.RowKit
set_option linter.unusedVariables false

theorem jc_one (p : Nat × Nat) : ∀ u ∈ jcs [p], u.oneCell' = true := by
  intro u hu
  simp [jcs] at hu
  rcases hu with rfl | rfl <;> rfl

theorem jc_new (w : World) (u l : Nat) : ∀ j x, (jcs [(u, l)])[j]? = some x → (w.alloc (.cells #[.int .i32 (u : Int), .int .i32 (l : Int)] 78)).cell? ((⟨w.heap.size, 0, none⟩ : Addr).add j) = some x := by
  intro j x hx
  rw [show (⟨w.heap.size, 0, none⟩ : Addr).add j = ⟨w.heap.size, j, none⟩ from by unfold Addr.add; split <;> simp_all]
  have hn := heap_alloc_new w (.cells #[.int .i32 (u : Int), .int .i32 (l : Int)] 78)
  unfold World.cell?
  rw [hn]
  simpa [jcs] using hx

/-- One join more is kept. -/
theorem Gr.joined {w w2 w3 : World} {gb n K g cap : Nat} {mv jv : Value} {T : Tb} {js : List (Nat × Nat)} {p : Nat × Nat} (h : Gr w gb mv jv n K T js) (hl : js.length + 1 < n) (hb : Below w.heap.size w w2) (hg : w2.grownBy w3 jv.ownBlock)
    (ho : w3.ownsRow 0 78 2 (.slice (some ⟨g, 0, none⟩) (js.length + 1) cap) (js.length + 1) (jcs js ++ jcs [p])) (hat : jv.ownBlock = some g ∨ g = w2.heap.size) :
    Gr (w3.setCell ⟨gb, 2, none⟩ (.slice (some ⟨g, 0, none⟩) (js.length + 1) cap)) gb mv (.slice (some ⟨g, 0, none⟩) (js.length + 1) cap) n K T (js ++ [p]) ∧ Turned (own gb mv jv) w (w3.setCell ⟨gb, 2, none⟩ (.slice (some ⟨g, 0, none⟩) (js.length + 1) cap)) ∧ Fresh w jv (.slice (some ⟨g, 0, none⟩) (js.length + 1) cap) := by
  have h2 := h.more hb
  have hne : mv.ownBlock ≠ some gb := fun e => (h2.mne e).1 rfl
  have hjn : jv.ownBlock ≠ some gb := fun e => (h2.jne e).1 rfl
  have hgn : g ≠ gb := by
    rcases hat with e | e
    · exact (h2.jne e).1
    · have := h2.lt; omega
  rw [← jcs_append] at ho
  have e1 : (js ++ [p]).length = js.length + 1 := by simp
  refine ⟨put2 ((hg.block gb h2.lt (fun e => hjn e.symm)).trans h2.self) (h2.mem.kept hg ?_) (by rw [e1]; exact ho) hne (by simpa [Value.ownBlock] using hgn) h.rest h.hK (by omega) h.hn, ?_, fun k hk => ?_⟩
  · cases hj : mv.ownBlock with
    | none => exact Or.inl rfl
    | some k => exact Or.inr (fun e => (h2.mne hj).2 e.symm)
  · exact ((Turned.ofBelow hb (own gb mv jv)).trans (Turned.ofGrown hg (fun k hk => Or.inr (Or.inr hk)))).setCell (p := ⟨gb, 2, none⟩) (Or.inl rfl) _
  · simp [Value.ownBlock] at hk
    subst hk
    rcases hat with e | e
    · exact Or.inl e
    · right; have := hb.size; omega

theorem hang_steps {T : Tb} {o u so su lo lu : Nat} (hto : T o = ⟨o, so, lo⟩) (htu : T u = ⟨u, su, lu⟩) (ne : o ≠ u) :
    upd (upd (upd T u ⟨o, su, lu⟩) o ⟨o, so + su, lo⟩) o ⟨o, so + su, min lo lu⟩ = hangT T o u := by
  funext j
  unfold hangT
  rw [hto, htu]
  by_cases e : j = o
  · subst e; rw [upd_same, upd_same]
  · rw [upd_ne e, upd_ne e, upd_ne e]

/-- Inside 'hang': the Groups, what has turned since w, the two boxes. -/
structure HG (w wx : World) (gb n K g mcap : Nat) (mv jv jv' : Value) (T : Tb) (js : List (Nat × Nat)) (bo bu : Array Value) : Prop where
  gr : Gr wx gb (.slice (some ⟨g, 0, none⟩) K mcap) jv' n K T js
  tu : Turned (own gb mv jv) w wx
  b0 : wx.heap[w.heap.size]? = some (.cells bo 68 (0, 0))
  b1 : wx.heap[w.heap.size + 1]? = some (.cells bu 68 (0, 0))
  fm : Fresh w mv (.slice (some ⟨g, 0, none⟩) K mcap)
  fj : Fresh w jv jv'
  ne : g ≠ w.heap.size ∧ g ≠ w.heap.size + 1

theorem HG.set {w wx : World} {gb n K g mcap : Nat} {mv jv jv' : Value} {T : Tb} {js : List (Nat × Nat)} {bo bu : Array Value} (h : HG w wx gb n K g mcap mv jv jv' T js bo bu) {i : Nat} (k : Nat) {u : Value} (n' : Mb) (hi : i < K) (hk : k < 3) (hn : nc n' = (nc (T i)).set k u) :
    HG w (wx.setCell ⟨g, i * 3 + k, none⟩ u).drew gb n K g mcap mv jv jv' (upd T i n') js bo bu := by
  refine ⟨(h.gr.set k n' hi hk hn).more (Below.refl _ _).drew, ?_, ?_, ?_, h.fm, h.fj, h.ne⟩
  · refine h.tu.then ((Turned.refl (fun k => k = g) wx).setCell (p := ⟨g, i * 3 + k, none⟩) rfl u).drew (fun j hj e => ?_)
    subst e
    rcases h.fm j rfl with e | e
    · exact Or.inr (Or.inl e)
    · omega
  · exact (Below.heap_setCell _ _ _ _ (fun e => h.ne.1 e.symm)).trans h.b0
  · exact (Below.heap_setCell _ _ _ _ (fun e => h.ne.2 e.symm)).trans h.b1

set_option maxRecDepth 100000 in
set_option maxHeartbeats 2000000 in
theorem hang_ok (gb n K o u so su lo lu : Nat) (mv jv : Value) (T : Tb) (js : List (Nat × Nat)) (w : World) (h : Gr w gb mv jv n K T js) (ho : o < n) (hu : u < n) (hto : T o = ⟨o, so, lo⟩) (htu : T u = ⟨u, su, lu⟩) (ne : o ≠ u) (hs : so + su ≤ n) (h1 : lo < n) (h2 : lu < n) (hjs : js.length + 1 < n) :
    Calls Try.prog 32 #[.pointer (some ⟨gb, 0, none⟩), .agg #[.int .i32 (o : Int), .int .i32 (so : Int), .int .i32 (lo : Int)], .agg #[.int .i32 (u : Int), .int .i32 (su : Int), .int .i32 (lu : Int)]] w fun e w' =>
      e = .returned (.tuple #[]) ∧ ∃ K' mv' jv', Gr w' gb mv' jv' n K' (hangT T o u) (js ++ [(u, lo)]) ∧ Turned (own gb mv jv) w w' ∧ Fresh w mv mv' ∧ Fresh w jv jv' := by
  obtain ⟨i0, hif, hz0, hz1, hz2⟩ := info_parts infoJoin
  have hn := h.hn
  have hh := hid h
  have hst := hid (hang_steps hto htu ne)
  replace hto := hid hto
  replace htu := hid htu
  have bB : Below w.heap.size w ((w.alloc (.cells #[.int .i32 (o : Int), .int .i32 (so : Int), .int .i32 (lo : Int)] 68)).alloc (.cells #[.int .i32 (u : Int), .int .i32 (su : Int), .int .i32 (lu : Int)] 68)) := ((Below.refl _ _).alloc (Nat.le_refl _) _).alloc (by simp) _
  have hB0 : Hid (((w.alloc (.cells #[.int .i32 (o : Int), .int .i32 (so : Int), .int .i32 (lo : Int)] 68)).alloc (.cells #[.int .i32 (u : Int), .int .i32 (su : Int), .int .i32 (lu : Int)] 68)).heap[w.heap.size]? = some (.cells #[.int .i32 (o : Int), .int .i32 (so : Int), .int .i32 (lo : Int)] 68 (0, 0))) := (Below.heap_alloc _ _ _ (by simp)).trans (heap_alloc_new _ _)
  have hB1 : Hid (((w.alloc (.cells #[.int .i32 (o : Int), .int .i32 (so : Int), .int .i32 (lo : Int)] 68)).alloc (.cells #[.int .i32 (u : Int), .int .i32 (su : Int), .int .i32 (lu : Int)] 68)).heap[w.heap.size + 1]? = some (.cells #[.int .i32 (u : Int), .int .i32 (su : Int), .int .i32 (lu : Int)] 68 (0, 0))) := by
    have := heap_alloc_new (w.alloc (.cells #[.int .i32 (o : Int), .int .i32 (so : Int), .int .i32 (lo : Int)] 68)) (.cells #[.int .i32 (u : Int), .int .i32 (su : Int), .int .i32 (lu : Int)] 68)
    refine hid ?_
    simpa using this
  have hG := hid (hh.out.more bB)
  have hS : (((w.alloc (.cells #[.int .i32 (o : Int), .int .i32 (so : Int), .int .i32 (lo : Int)] 68)).alloc (.cells #[.int .i32 (u : Int), .int .i32 (su : Int), .int .i32 (lu : Int)] 68))).heap.size = w.heap.size + 2 := by simp
  replace bB := hid bB
  clear h
  obtain ⟨x, hx⟩ : ∃ x : Nat, (o ≤ x ∧ u ≤ x ∧ x < n) ∧ ((o < u ∧ u = x) ∨ (u < o ∧ o = x)) := by
    rcases Nat.lt_or_ge o u with k | k
    · exact ⟨u, by omega, Or.inl ⟨k, rfl⟩⟩
    · exact ⟨o, by omega, Or.inr ⟨by omega, rfl⟩⟩
  obtain ⟨⟨hxo, hxu, hxn⟩, hx⟩ := hx
  rcases hx with ⟨k, rfl⟩ | ⟨k, rfl⟩
  all_goals
    go_enter Try.func32, Try.ntmps32
    go_wp2_with fail
    generalize hwb : (w.alloc (.cells #[.int .i32 (o : Int), .int .i32 (so : Int), .int .i32 (lo : Int)] 68)).alloc (.cells #[.int .i32 (u : Int), .int .i32 (su : Int), .int .i32 (lu : Int)] 68) = wb at bB hB0 hB1 hG hS ⊢
    clear hwb
    refine (reach_ok gb n K _ mv jv T js wb hG.out hxn).mono ?_
    rintro e w1 ⟨rfl, K1, mv1, g1, g2, g3, g4, g5⟩
    have hGl : ∀ k, own gb mv jv k → k < w.heap.size := fun k hk => hh.out.olt hk
    have b0 := hid ((g4.block w.heap.size (by omega) (fun e => by have := hGl _ e; omega)).trans hB0.out)
    have b1 := hid ((g4.block (w.heap.size + 1) (by omega) (fun e => by have := hGl _ e; omega)).trans hB1.out)
    have hG1 := hid g1
    have hT1 : Hid (Turned (own gb mv jv) w w1) := (Turned.ofBelow bB.out _).trans g4
    have hF1 : Hid (Fresh w mv mv1) := fun k hk => by
      rcases g5 k hk with e | e
      · exact Or.inl e
      · exact Or.inr (by omega)
    have hO1 : Hid (∀ k, own gb mv1 jv k → k < w.heap.size ∨ w.heap.size + 2 ≤ k) := fun k hk => by
      rcases hk with e | e | e
      · exact Or.inl (hGl k (Or.inl e))
      · rcases g5 k e with e' | e'
        · exact Or.inl (hGl k (Or.inr (Or.inl e')))
        · exact Or.inr (by omega)
      · exact Or.inl (hGl k (Or.inr (Or.inr e)))
    obtain ⟨g, mcap, rfl, _, _⟩ := own_form g1.mem (by omega)
    have hgl1 := g1.lt
    have hsz1 := g4.size
    obtain ⟨ad, cap, rfl, hc1, hc2⟩ := own_any g1.jo
    have c2 := g1.c2
    have f2 := g1.f2
    have hjl : js.length ≤ 4194304 := by omega
    have hmne : (Value.slice ad js.length cap).ownBlock ≠ some gb := fun e => (hG1.out.jne e).1 rfl
    clear g1 g4 g5 hB0 hB1 hG hGl
    obtain ⟨d0, d1, d2, _, _, _⟩ := blk3 b0.out
    obtain ⟨d3, d4, d5, _, _, _⟩ := blk3 b1.out
    have hb2 : Hid (Below w1.heap.size w1 (w1.alloc (.cells #[.int .i32 (u : Int), .int .i32 (lo : Int)] 78)).drew) := ((Below.refl w1.heap.size w1).alloc (Nat.le_refl _) _).drew
    have hS2 : Hid (∀ y, Below w1.heap.size w1 y → y.cell? ⟨gb, 2, none⟩ = some (.slice ad js.length cap) ∧ y.frozen? ⟨gb, 2, none⟩ = false) := fun y hy => ⟨(hG1.out.more hy).c2, (hG1.out.more hy).f2⟩
    go_upto_region 2 with fail
    go_cut [14] from 14 to 27 (fun _ wx => ∃ jv' : Value, Hid (Gr wx gb (.slice (some ⟨g, 0, none⟩) K1 mcap) jv' n K1 T (js ++ [(u, lo)]) ∧ Turned (own gb (.slice (some ⟨g, 0, none⟩) K1 mcap) (.slice ad js.length cap)) w1 wx ∧ Fresh w1 (.slice ad js.length cap) jv'))
    case first =>
      go_region_law (refine step_append_lies _ (by rfl) (.tmp 18) (.tmp 24) 62 (by rfl) 0 78 i0 _ 2 8 Try.underlying62 hif hz0 hz1 hz2 rfl (by decide) (.slice ad js.length cap) js.length (jcs js) (by rfl) (hG1.out.jo.drew.alloc _) ⟨w1.heap.size, 0, none⟩ 1 1 (jcs [(u, lo)]) (by rfl) rfl (jc_new w1 u lo) (jc_one _) (by decide) (by unfold maxLen; omega) (by omega) (Nat.zero_le _) (w1.heap.size + 1) (by simp) ?_; intro gj cap' w3 ho3 hg3 hat3 hlt3; obtain ⟨k3, k3f⟩ := s_grown (hS2.out _ hb2.out) hg3 hmne; have fin := hid (hG1.out.joined hjs hb2.out hg3 ho3 (by simpa using hat3)); clear ho3 hg3 hat3 hlt3)
      all_goals
        go_wp2_with fail
        go_meet
        case rel => exact ⟨_, fin⟩
    case rest =>
      obtain ⟨jv', fin⟩ := hcut
      clear d0 d1 d2 d3 d4 d5 c2 f2 hS2 hb2
      replace b0 := hid ((fin.out.2.1.block w.heap.size (by omega) (fun e => by have := hO1.out _ e; omega)).trans b0.out)
      replace b1 := hid ((fin.out.2.1.block (w.heap.size + 1) (by omega) (fun e => by have := hO1.out _ e; omega)).trans b1.out)
      have hgB : g ≠ w.heap.size ∧ g ≠ w.heap.size + 1 := by
        have := hO1.out g (Or.inr (Or.inl rfl))
        omega
      have hT4 : Turned (own gb mv (.slice ad js.length cap)) w wc := hT1.out.then fin.out.2.1 (fun i hi ho => by
        rcases ho with e | e | e
        · exact Or.inl e
        · rcases hF1.out i e with k | k
          · exact Or.inr (Or.inl k)
          · omega
        · exact Or.inr (Or.inr e))
      have hF4 : Fresh w (.slice ad js.length cap) jv' := fun i hi => by
        rcases fin.out.2.2 i hi with k | k
        · exact Or.inl k
        · exact Or.inr (by have := hT1.out.size; omega)
      have H4 : Hid (HG w wc gb n K1 g mcap mv (.slice ad js.length cap) jv' T (js ++ [(u, lo)]) #[.int .i32 (o : Int), .int .i32 (so : Int), .int .i32 (lo : Int)] #[.int .i32 (u : Int), .int .i32 (su : Int), .int .i32 (lu : Int)]) := ⟨fin.out.1, hT4, b0.out, b1.out, hF1.out, hF4, hgB⟩
      clear fin hT1 hO1 hT4 hF4 b0 b1
      go_upto_region 3 with fail
      go_cut [28] from 28 to 37 (fun _ wx => Hid (HG w wx gb n K1 g mcap mv (.slice ad js.length cap) jv' (upd T u ⟨o, su, lu⟩) (js ++ [(u, lo)]) #[.int .i32 (o : Int), .int .i32 (so : Int), .int .i32 (lo : Int)] #[.int .i32 (u : Int), .int .i32 (su : Int), .int .i32 (lu : Int)]))
      case first =>
        obtain ⟨d0, d1, d2, _, _, _⟩ := blk3 H4.out.b0
        obtain ⟨d3, d4, d5, _, _, _⟩ := blk3 H4.out.b1
        have c1 := H4.out.gr.c1
        obtain ⟨a0, _, _⟩ := H4.out.gr.at (i := u) (by omega)
        have z0 := H4.out.gr.mem.frozenAt (u * 3)
        have s5 := H4.out.set (i := u) 0 (u := .int .i32 (o : Int)) ⟨o, su, lu⟩ (by omega) (by decide) (by rw [htu.out]; rfl)
        simp only [Nat.add_zero] at s5
        replace s5 := hid s5
        go_region
        all_goals
          go_wp2_with fail
          go_meet
          case rel => exact s5
      case rest =>
        clear H4
        have H4 := hcut
        clear hcut
        go_upto_region 4 with fail
        go_cut [38] from 38 to 51 (fun _ wx => Hid (HG w wx gb n K1 g mcap mv (.slice ad js.length cap) jv' (upd (upd T u ⟨o, su, lu⟩) o ⟨o, so + su, lo⟩) (js ++ [(u, lo)]) #[.int .i32 (o : Int), .int .i32 (so : Int), .int .i32 (lo : Int)] #[.int .i32 (u : Int), .int .i32 (su : Int), .int .i32 (lu : Int)]))
        case first =>
          obtain ⟨d0, d1, d2, _, _, _⟩ := blk3 H4.out.b0
          obtain ⟨d3, d4, d5, _, _, _⟩ := blk3 H4.out.b1
          have c1 := H4.out.gr.c1
          have a1 := (H4.out.gr.at (i := o) (by omega)).2.1
          rw [upd_ne ne, hto.out] at a1
          simp only [] at a1
          have z1 := H4.out.gr.mem.frozenAt (o * 3 + 1)
          have s5 := hid (H4.out.set (i := o) 1 (u := .int .i32 ((so + su : Nat) : Int)) ⟨o, so + su, lo⟩ (by omega) (by decide) (by rw [upd_ne ne, hto.out]; rfl))
          have hwr : IntKind.i32.wrap ((so : Int) + (su : Int)) = ((so + su : Nat) : Int) := by rw [IntKind.wrap_i32]; omega
          go_region
          all_goals
            go_wp2_with fail
            go_meet
            case rel => exact s5
        case rest =>
          clear H4
          have H4 := hcut
          clear hcut
          go_upto_region 5 with fail
          obtain ⟨d0, d1, d2, _, _, _⟩ := blk3 H4.out.b0
          obtain ⟨d3, d4, d5, _, _, _⟩ := blk3 H4.out.b1
          have c1 := H4.out.gr.c1
          have a1 := (H4.out.gr.at (i := o) (by omega)).2.2
          rw [upd_same] at a1
          simp only [] at a1
          have z1 := H4.out.gr.mem.frozenAt (o * 3 + 2)
          have s5 : Hid (∀ m : Nat, min lo lu = m → HG w (wc.setCell ⟨g, o * 3 + 2, none⟩ (.int .i32 (m : Int))).drew gb n K1 g mcap mv (.slice ad js.length cap) jv' (hangT T o u) (js ++ [(u, lo)]) #[.int .i32 (o : Int), .int .i32 (so : Int), .int .i32 (lo : Int)] #[.int .i32 (u : Int), .int .i32 (su : Int), .int .i32 (lu : Int)]) := fun m hm => by
            rw [← hst.out, hm]
            exact H4.out.set (i := o) 2 (u := .int .i32 ((m : Nat) : Int)) ⟨o, so + su, m⟩ (by omega) (by decide) (by rw [upd_same]; rfl)
          rcases Nat.lt_or_ge lu lo with k2 | k2
          · replace s5 := hid (s5.out lu (by omega))
            go_region
            all_goals
              go_wp2_with fail
              go_end0
              exact ⟨rfl, K1, _, jv', s5.out.gr, s5.out.tu, s5.out.fm, s5.out.fj⟩
          · replace s5 := hid (s5.out lo (by omega))
            go_region
            all_goals
              go_wp2_with fail
              go_end0
              exact ⟨rfl, K1, _, jv', s5.out.gr, s5.out.tu, s5.out.fm, s5.out.fj⟩

end Go.Proofs.Ytnlbpjppkfenkaa
