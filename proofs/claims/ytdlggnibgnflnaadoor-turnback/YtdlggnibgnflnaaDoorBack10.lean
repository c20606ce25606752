/- 'TurnBack', walked. -/
import Derived.Test.YtdlggnibgnflnaaDoorLs10
import Derived.Test.YtdlggnibgnflnaaDoorSumP10
import Derived.Test.YtdlggnibgnflnaaDoorRegion
import Derived.Deep.RegionLaw
import Derived.Deep.CutBlock
namespace Go.Proofs.YtdlggnibgnflnaaDoor
open Go.RowKit
set_option linter.unusedVariables false

/-- The act's block. -/
abbrev acb (q : Ac) : Obj := .cells #[.int .i64 q.k, .int .i64 q.e, .int .i64 q.a0, .int .i64 q.a1, .int .i64 q.b0, .int .i64 q.b1] 37 (0, 0)

/-- Since wx: the document's variable, and the act's. -/
def BK (wx : World) (p g : Nat) (ad : Option Addr) (V cap : Nat) (q : Ac) (y : World) : Prop := Below wx.heap.size wx y ∧ y.heap[g]? = some (.cells #[.int .i64 8, .slice ad V cap] 31 (0, 0)) ∧ y.heap[p]? = some (acb q) ∧ g < wx.heap.size ∧ p < wx.heap.size

section
variable {wx y y' : World} {p g V cap : Nat} {ad : Option Addr} {q : Ac}
theorem BK.below (h : BK wx p g ad V cap q y) (hb : Below y.heap.size y y') : BK wx p g ad V cap q y' :=
  ⟨h.1.trans (hb.mono h.1.size), (hb.block _ (Array.getElem?_eq_some_iff.1 h.2.1).1).trans h.2.1, (hb.block _ (Array.getElem?_eq_some_iff.1 h.2.2.1).1).trans h.2.2.1, h.2.2.2⟩
theorem BK.drew (h : BK wx p g ad V cap q y) : BK wx p g ad V cap q y.drew := h.below (Below.refl _ _).drew
theorem BK.set2 (h : BK wx p g ad V cap q y) {P : Nat} (hP : wx.heap.size ≤ P) (u v : Value) : BK wx p g ad V cap q ((y.setCell ⟨P, 0, none⟩ u).setCell ⟨P, 1, none⟩ v) := by
  obtain ⟨h1, h2, h3, h4, h5⟩ := h
  have k : ∀ b, b < wx.heap.size → ((y.setCell ⟨P, 0, none⟩ u).setCell ⟨P, 1, none⟩ v).heap[b]? = y.heap[b]? := fun b hb => by rw [Below.heap_setCell _ _ _ _ (by show b ≠ P; omega), Below.heap_setCell _ _ _ _ (by show b ≠ P; omega)]
  exact ⟨below2 h1 hP _ _, (k g h4).trans h2, (k p h5).trans h3, h4, h5⟩
theorem BK.six {k e a0 a1 b0 b1 : Int} (h : BK wx p g ad V cap ⟨k, e, a0, a1, b0, b1⟩ y) : y.cell? ⟨g, 0, none⟩ = some (.int .i64 8) ∧ y.cell? ⟨g, 1, none⟩ = some (.slice ad V cap) ∧ y.cell? ⟨p, 2, none⟩ = some (.int .i64 a0) ∧ y.cell? ⟨p, 3, none⟩ = some (.int .i64 a1) ∧ y.cell? ⟨p, 4, none⟩ = some (.int .i64 b0) ∧ y.cell? ⟨p, 5, none⟩ = some (.int .i64 b1) := by
  obtain ⟨x0, x1, _, _⟩ := blk2 h.2.1
  refine ⟨x0, x1, ?_, ?_, ?_, ?_⟩ <;> (unfold World.cell?; rw [h.2.2.1]; rfl)
end

theorem NL.ai {w w' : World} {v : Value} {l : List Nat} (h : NL w v l) (ha : ∀ b, Ty w b 3 → w'.heap[b]? = w.heap[b]?) : NL w' v l := by
  obtain ⟨ad, n, cap, h1, h2, h3, h4, h5⟩ := h
  refine ⟨ad, n, cap, h1, h2, ⟨h3.1, h3.2.1, fun a e => ?_⟩, h4, fun j x hx => ?_⟩
  · obtain ⟨b, o, rfl, ht⟩ := h3.2.2 a e
    exact ⟨b, o, rfl, ht.of (ha b ht)⟩
  · obtain ⟨b, o, e1, e2⟩ := h5 j x hx
    refine ⟨b, o, e1, ?_⟩
    obtain ⟨b', o', e3, ht⟩ := h3.2.2 _ e1
    cases e3
    exact (World.cell?_of_block (ha b ht)).trans e2

/-- The lists that were told before. -/
def Bf (base : Nat) (R : Nat → List Nat) (i : Nat) (v : Value) (us : List Value) (y : World) : Prop := y.ownsRow base 53 1 v i us ∧ us.length = i ∧ ∀ (k : Nat) u, us[k]? = some u → NL y u (lf (R k))

theorem Bf.al {base : Nat} {R : Nat → List Nat} {i : Nat} {v : Value} {us : List Value} {y y' : World} (h : Bf base R i v us y) (ha : Al y y') : Bf base R i v us y' := by
  obtain ⟨h1, h2, h3⟩ := h
  refine ⟨⟨h1.1, ?_⟩, h2, fun k u hu => (h3 k u hu).al ha⟩
  rcases h1.2 with q | ⟨g, cap, cur, e, hb, hh, r⟩
  · exact .inl q
  · exact .inr ⟨g, cap, cur, e, hb, (ha g (.inr ⟨_, _, hh⟩)).trans hh, r⟩

theorem one_cell_nl {w : World} {v : Value} {l : List Nat} (h : NL w v l) : v.oneCell' = true := h.one

theorem lay_sum {V : Nat} {R : Nat → List Nat} {e u v : Nat} {a b : Option Nat} (hu : u < V) (hv : v < V) (ha : ∀ y, a = some y → y ∈ R u) (hb : ∀ y, b = some y → y ∈ R v) : sumL (layR R e u v a b) V = sumL R V + 2 := by
  unfold layR
  rw [sumL_put hv (lay_b hb ha), sumL_put hu ha]

/-- What the three calls answer of a dart that stands. -/
theorem three_at {w : World} {lo tb V E : Nat} {R : Nat → List Nat} (h : TA w lo tb V E R) {u k : Nat} (hu : u < V) (hm : k ∈ R u) :
    (∀ y, Below w.heap.size w y → Calls Tryd.prog 20 #[.pointer (some ⟨tb, 0, none⟩), .int .i64 (k : Int)] y fun e w' => e = .returned (.tuple #[.int .i64 (nx (R u) k : Int), .nilIface]) ∧ Below y.heap.size y w') ∧
    (∀ y, Below w.heap.size w y → Calls Tryd.prog 26 #[.pointer (some ⟨tb, 0, none⟩), .int .i64 (k : Int)] y fun e w' => e = .returned (.tuple #[.int .i64 (pv (R u) k : Int), .nilIface]) ∧ Below y.heap.size y w') ∧
    (∀ y, Below w.heap.size w y → Calls Tryd.prog 27 #[.pointer (some ⟨tb, 0, none⟩), .int .i64 (k : Int)] y fun e w' => e = .returned (.tuple #[.int .i64 (u : Int), .nilIface]) ∧ Below y.heap.size y w') := by
  have ht := h.tn
  obtain ⟨n, p, o, r, hnx, h1, h2, h3⟩ := three_ok h (k : Int)
  obtain ⟨rfl, rfl, rfl, rfl⟩ : r = .nilIface ∧ n = (nx (R u) k : Int) ∧ p = (pv (R u) k : Int) ∧ o = (u : Int) := by
    rcases hnx with ⟨_, _, _, _, h5⟩ | ⟨_, _, _, _, k', hk', _, hn'⟩ | ⟨h1, k', u', hk', hu', hm', h2, h3, h4⟩
    · have := ht.low u k hu hm; omega
    · obtain rfl : k = k' := by omega
      exact absurd ⟨u, hu, hm⟩ hn'
    · obtain rfl : k = k' := by omega
      obtain rfl := ht.one u u' k hu hu' hm hm'
      exact ⟨h1, h2, h3, h4⟩
  exact ⟨h1, h2, h3⟩

theorem nx_lf {l : List Nat} {y : Nat} (hn : l.Nodup) (hy : y ∈ l) : nx (lf l) y = nx l y := by
  have hne : l ≠ [] := fun e => by rw [e] at hy; simp at hy
  exact nx_rot hn hy (least0_mem l hne)

set_option maxRecDepth 100000 in
set_option maxHeartbeats 4000000 in
theorem back_law (n : Int) (v : Value) (l : List Ac) (q : Ac) (w : World) (hg : Handle w) (hv : AV w v l) :
    Calls Tryd.prog 6 #[.int .i64 n, v, acv q] w fun x w' => x = .returned (.bool true) ∧ Below w.heap.size w w' := by
  obtain ⟨V, hV, hV1, hV6⟩ := mod_up n 6 (by decide) (by decide)
  have hlo : 0 < w.heap.size := hg.lt
  have hav := hid hv
  obtain ⟨sa, m, sc, rfl, hlen, hmc, hcm, _⟩ := hv
  unfold maxLen at hcm
  replace hlen := hid hlen
  replace hg := hid hg
  have hbb := hid (balloc w (acb q))
  have hpb := hid (heap_alloc_new w (acb q))
  obtain ⟨w0, hw0⟩ : ∃ w0, w.alloc (acb q) = w0 := ⟨_, rfl⟩
  rw [hw0] at hbb hpb
  have hnew := hid (new_ok V 9 w0 (by omega) (by omega) (by decide) (by decide))
  have hrn := hid (fun y => rnew_ok 8 V y (by decide) (by omega))
  replace hw0 := hid hw0
  go_enter Tryd.func6, Tryd.ntmps6
  go_upto_region 2 with fail
  try rw [hV]
  rw [hw0.out]
  clear hV hw0
  go_wp2_with fail
  refine hnew.out.mono ?_
  rintro x w1 ⟨rfl, a1, b1⟩
  replace a1 := hid (a1.down (lo' := w.heap.size) hbb.out.size)
  have hp1 := hid ((b1.block _ (Array.getElem?_eq_some_iff.1 hpb.out).1).trans hpb.out)
  replace b1 : Hid (Below w.heap.size w w1) := hbb.out.trans (b1.mono hbb.out.size)
  clear hnew
  go_wp2_with fail
  refine (hrn.out w1).mono ?_
  rintro x w2 ⟨xv, rfl, hx, b2⟩
  obtain ⟨ad0, cap0, rfl, hls0⟩ := Ls.new (E := 9) (a1.out.more b2) (b1.out.trans (b2.mono b1.out.size)) hx (by decide)
  replace hls0 := hid hls0
  have hp2 := hid (al_keep (o' := .cells #[.int .i64 8, .slice ad0 V cap0] 31) ((b2.block _ (Array.getElem?_eq_some_iff.1 hp1.out).1).trans hp1.out))
  have hwg0 : w.heap.size ≠ w2.heap.size := by have h1 := (Array.getElem?_eq_some_iff.1 hp1.out).1; have h2 := b2.size; omega
  clear b2 hx a1 b1 hrn hp1 hpb
  go_upto_block 0 with fail
  obtain ⟨w3, hw3⟩ : ∃ w3, w2.alloc (.cells #[.int .i64 8, .slice ad0 V cap0] 31) = w3 := ⟨_, rfl⟩
  have hls1 : Hid (Ls w w0.heap.size w2.heap.size V 9 8 (fun _ => []) w3) := by rw [← hw3]; exact hls0
  rw [hw3] at hp2
  try rw [hw3]
  clear hls0 hw3
  go_cut [11] from 50 to 83 (fun _ wx => ∃ R, Hid (Ls w w0.heap.size w2.heap.size V 9 8 R wx ∧ wx.heap[w.heap.size]? = some (acb q)))
  case first =>
    go_wp2_with fail
    go_loopw [11] (fun s11 wr => ∃ (j : Nat) (R : Nat → List Nat), j ≤ m ∧ j ≤ 30 ∧ s11 = .int .i64 (j : Int) ∧ Hid (Ls w w0.heap.size w2.heap.size V 9 8 R wr ∧ wr.heap[w.heap.size]? = some (acb q))) (fun s11 _ => 30 - (intOf s11).toNat)
    case atStart => exact ⟨0, _, by omega, by omega, by go_num, hls1.out, hp2.out⟩
    case round =>
      obtain ⟨j, R, hj, hj40, rfl, hst⟩ := hrel
      clear hls1 hp2
      by_cases hlt : j < m ∧ j < 30
      · obtain ⟨u, hq⟩ : ∃ u, l[j]? = some u := ⟨_, List.getElem?_eq_getElem (by rw [hlen.out]; exact hlt.1)⟩
        obtain ⟨ad, cap, hbo, hgb, hgl, hbw⟩ := hst.out.1
        have hpb := hid hst.out.2
        obtain ⟨b0, o0, n0, c0', e0, hbl, k0, k1, k2, k3, k4, k5⟩ := hav.out.six hbw hq
        simp only [Value.slice.injEq] at e0
        obtain ⟨rfl, rfl, rfl⟩ := e0
        have i1 : (0 : Int) ≤ (j : Int) := by omega
        have i2 : (j : Int) < (m : Int) := by omega
        have t1 : decide ((j : Int) < (m : Int)) = true := decide_eq_true (by omega)
        have t2 : decide ((j : Int) < 30) = true := decide_eq_true (by omega)
        have hls9 := hid hst.out.1
        by_cases hA : 0 ≤ u.e ∧ u.e < 8
        · have hdo := hid (do_ok (hbo.more (Below.refl _ _).drew) u (hg.out.below hbw.drew) hlo hV1 (by omega) (by decide) (by omega))
          obtain ⟨x0, x1, _, _⟩ := blk2 hgb
          obtain ⟨uk, ue, ua0, ua1, ub0, ub1⟩ := u
          simp only [] at k0 k1 k2 k3 k4 k5 hA
          have d1 : decide (ue ≥ 0) = true := decide_eq_true (by omega)
          have d1' : decide (0 ≤ ue) = true := decide_eq_true (by omega)
          have d2 : decide (ue < 8) = true := decide_eq_true (by omega)
          have hgb' := hid hgb
          have hbw' := hid hbw
          clear hst hbo hgb hbw hq hA
          go_upto_region 10 with fail
          go_region_law ((go_simp; refine (hdo.out).mono ?_; rintro x w4 ⟨xv', R', rfl, hbo', hkp⟩; obtain ⟨lv', hxe, ad', cap', hlv, _⟩ := id hbo'.rt; subst hxe; subst hlv; have hg4 := (hkp.keep (k := w2.heap.size) ⟨_, _, hgb'.out⟩ (by decide) (by decide) (by decide)).trans hgb'.out; have hp4 := (hkp.keep (k := w.heap.size) ⟨_, _, hpb.out⟩ (by decide) (by decide) (by decide)).trans hpb.out; obtain ⟨m0, m1, m2, m3⟩ := blk2 hg4; have fin := hid (And.intro (Ls.store hbo' hg4 hgl (hbw'.out.drew.trans (hkp.below hbw'.out.size))) (show ((w4.setCell ⟨w2.heap.size, 0, none⟩ (.int .i64 ((8 : Nat) : Int))).setCell ⟨w2.heap.size, 1, none⟩ (.slice ad' V cap')).heap[w.heap.size]? = some (acb q) by rw [Below.heap_setCell _ _ _ _ hwg0, Below.heap_setCell _ _ _ _ hwg0]; exact hp4)); clear hbo' hkp hg4 hp4; dsimp only))
          all_goals
            go_wp2_with fail
            go_roundw
            case rel => exact ⟨j + 1, R', by omega, by omega, by go_num, fin.out⟩
            case measure => simp [intOf]; omega
        · have hdd : (decide (u.e ≥ 0) = false ∧ decide (0 ≤ u.e) = false) ∨ ((decide (u.e ≥ 0) = true ∧ decide (0 ≤ u.e) = true) ∧ decide (u.e < 8) = false) := by
            by_cases h0 : 0 ≤ u.e
            · exact .inr ⟨⟨decide_eq_true h0, decide_eq_true h0⟩, decide_eq_false (by omega)⟩
            · exact .inl ⟨decide_eq_false h0, decide_eq_false h0⟩
          clear hst hbo hgb hbw hq hA k0 k2 k3 k4 k5
          rcases hdd with ⟨d1, d2⟩ | ⟨⟨d1, d2⟩, d3⟩
          all_goals
            go_wp2_with fail
            go_roundw
            case rel => exact ⟨j + 1, R, by omega, by omega, by go_num, hls9.out, hpb.out⟩
            case measure => simp [intOf]; omega
      · have hex : (decide ((j : Int) < (m : Int)) = false ∧ decide (j < m) = false) ∨ ((decide ((j : Int) < (m : Int)) = true ∧ decide (j < m) = true) ∧ (decide ((j : Int) < 30) = false ∧ decide (j < 30) = false)) := by
          by_cases h1 : j < m
          · exact .inr ⟨⟨decide_eq_true (by omega), decide_eq_true h1⟩, decide_eq_false (by omega), decide_eq_false (by omega)⟩
          · exact .inl ⟨decide_eq_false (by omega), decide_eq_false h1⟩
        clear hlt hj hj40 hav hlen hmc hcm
        rcases hex with ⟨t1, t3⟩ | ⟨⟨t1, t3⟩, t2, t4⟩
        all_goals
          go_wp2_with fail
          go_meet
          case rel => exact ⟨R, hst⟩
  case rest =>
    obtain ⟨R, hst⟩ := hcut
    clear hls1 hp2 hav hlen hmc hcm
    obtain ⟨wo, hwo⟩ : ∃ wo, wo = wc := ⟨wc, rfl⟩
    subst hwo
    obtain ⟨i0, hif, hz0, hz1, hz2⟩ := info_parts infoInts
    obtain ⟨ad, cap, hbo, hgb, hgl, hbw⟩ := hst.out.1
    have hp0 := hid hst.out.2
    have hnd := hid hbo.tn
    have htw := hid hbo.tw
    have hta := hid hbo.ta
    have hxr := hid hbo.rt
    have hgb' := hid hgb
    have hbw' := hid hbw
    have hcor := hid (fun c0 c1 y (hy : Below wo.heap.size wo y) => corner_ok _ 8 V R c0 c1 y (hbo.rt.below hy) hbo.tn hV1 (by omega) (by decide))
    clear hst hbo hgb hbw
    go_wp2_with fail
    go_loopw [12, 13, 14, 15] (fun s12 s13 _ _ wr => ∃ (i : Nat) (us : List Value), i ≤ V ∧ s13 = .int .i64 (i : Int) ∧ Hid (Below wo.heap.size wo wr ∧ Bf wo.heap.size R i s12 us wr)) (fun _ s13 _ _ _ => V - (intOf s13).toNat)
    case atStart => exact ⟨0, [], by omega, by go_num, Below.refl _ _, World.ownsRow_nil _ _ _ _, rfl, fun k u hu => by simp at hu⟩
    case round =>
      obtain ⟨i, us, hi, rfl, hst2⟩ := hrel
      rcases Nat.lt_or_ge i V with hilt | hige
      · have v1 : decide ((i : Int) < (V : Int)) = true := decide_eq_true (by omega)
        have hro := hid (round_ok (hta.out.more hst2.out.1) i hilt)
        have hlf : Hid ((lf (R i)).length = (R i).length) := lf_length _
        go_wp2_with fail
        refine hro.out.mono ?_
        rintro x w5 ⟨rv, rfl, hrow, b5⟩
        have hnl : NL w5 rv (lf (R i)) := nl_of (by rw [hlf.out]; exact hrow)
        have hnl' := hid hnl
        obtain ⟨ra, rn, rc, rfl, hrest⟩ := hnl
        have hb5 : Hid (Below wo.heap.size wo w5) := hst2.out.1.trans (b5.mono hst2.out.1.size)
        have hbf := hid (hst2.out.2.al (.below b5))
        have hsz := hb5.out.size
        have hown := hbf.out.1
        clear hro hrow b5 hrest hst2
        go_wp2_with (at_builtin; refine wpList_append_own _ rfl (.tmp 95) (.tmp 97) 29 rfl wo.heap.size 53 i0 _ 1 24 Tryd.underlying29 hif hz0 hz1 hz2 rfl (by decide) _ _ _ rfl (hown.alloc _) ⟨w5.heap.size, 0, none⟩ 1 1 [.slice ra rn rc] rfl rfl (one_new w5 _ _) (by simp [Value.oneCell']) (by unfold maxLen; omega) (by omega) (by simp; omega) ?_; intro v' w' ho' hg' _)
        have hb6 : Below wo.heap.size wo w' := below_row (hb5.out.alloc hsz _) (Nat.le_refl _) (hown.alloc _) (Nat.le_refl _) hg'
        have hal : ∀ u l', NL w5 u l' → NL w' u l' := fun u l' hu => hu.ai (fun b hb => by
          refine (hg'.block b (by have := hb.lt; simp; omega) (fun e => ?_)).trans (Below.heap_alloc _ _ _ hb.lt)
          exact absurd ((row_ty hown e.symm).uniq hb) (by decide))
        have hnew : Hid (Below wo.heap.size wo w' ∧ Bf wo.heap.size R (i + 1) v' (us ++ [.slice ra rn rc]) w') := by
          refine hid ⟨hb6, ho', by rw [List.length_append, hbf.out.2.1]; rfl, fun k u hu => ?_⟩
          rw [List.getElem?_append] at hu
          split at hu
          · exact hal _ _ (hbf.out.2.2 k u hu)
          · next hk =>
            have hk2 : k = i := by
              have h1 := (List.getElem?_eq_some_iff.1 hu).1
              have h2 := hbf.out.2.1
              simp at h1
              omega
            subst hk2
            rw [hbf.out.2.1, Nat.sub_self] at hu
            cases hu
            exact hal _ _ hnl'.out
        clear ho' hg' hown hbf hb6 hal
        go_wp2_with fail
        go_roundw
        case rel => exact ⟨i + 1, _, by omega, by go_num, hnew.out⟩
        case measure => simp [intOf]; omega
      · obtain rfl : V = i := by omega
        have v1 : decide ((V : Int) < (V : Int)) = false := decide_eq_false (by omega)
        have hB2 := hid hst2.out.1
        have hbf := hid hst2.out.2
        obtain ⟨gB, cB, hbe, hbe1, hbe2⟩ := own_form hst2.out.2.1 (by omega)
        clear hst2
        subst hbe
        obtain ⟨wx, hwx⟩ : ∃ wx, wx = wr := ⟨wr, rfl⟩
        subst hwx
        obtain ⟨qk, qe, qa0, qa1, qb0, qb1⟩ := q
        have hbk : Hid (BK wx w.heap.size w2.heap.size ad V cap ⟨qk, qe, qa0, qa1, qb0, qb1⟩ wx) := ⟨Below.refl _ _, (hB2.out.block _ (Array.getElem?_eq_some_iff.1 hgb'.out).1).trans hgb'.out, (hB2.out.block _ (Array.getElem?_eq_some_iff.1 hp0.out).1).trans hp0.out, Nat.lt_of_lt_of_le (Array.getElem?_eq_some_iff.1 hgb'.out).1 hB2.out.size, Nat.lt_of_lt_of_le (Array.getElem?_eq_some_iff.1 hp0.out).1 hB2.out.size⟩
        replace hcor := hid (fun c0 c1 y (hy : Below wx.heap.size wx y) => hcor.out c0 c1 y (hB2.out.trans (hy.mono hB2.out.size)))
        have htx := hid (hta.out.more hB2.out)
        have hbx : Hid (Below w.heap.size w wx) := hbw'.out.trans (hB2.out.mono hbw'.out.size)
        clear hp0 hgb' hta hxr
        go_upto_region 17 with fail
        clear v1
        go_cut [16, 17] from 99 to 106 (fun s16 s17 wy => ∃ (P Q pu : Nat) (pb : Int) (qu : Nat) (qb : Int), s16 = .pointer (some ⟨P, 0, none⟩) ∧ s17 = .pointer (some ⟨Q, 0, none⟩) ∧ Hid (BK wx w.heap.size w2.heap.size ad V cap ⟨qk, qe, qa0, qa1, qb0, qb1⟩ wy ∧ pu < V ∧ Co V R (pu : Int) pb ∧ qu < V ∧ Co V R (qu : Int) qb ∧ wy.heap[P]? = some (.cells #[.int .i64 (pu : Int), .int .i64 pb] 35 (0, 0)) ∧ wy.heap[Q]? = some (.cells #[.int .i64 (qu : Int), .int .i64 qb] 35 (0, 0))))
        case first =>
          refine wp_region_noPanic ?_
          refine wp_region_held_drew (S := fun y => BK wx w.heap.size w2.heap.size ad V cap ⟨qk, qe, qa0, qa1, qb0, qb1⟩ y) (by kernel_rfl) hbk.out.drew (fun hHeld => ?_)
          refine takeH (i := 0) (v := ?_) (a' := ?_) ({ dst := some 99, op := Op.load 31 (Operand.tmp 10), type := 31, pos := "law.go:189", after := #[], guard := none }) rfl (by kernel_rfl) (by kernel_rfl) (by kernel_rfl) (fun _ _ _ h => h) (by rfl) ?_ (by assumption) ?_ ?_
          rotate_left 2
          · (intro w' hSw; obtain ⟨q0, q1, q2, q3, q4, q5⟩ := BK.six hSw; clear hSw; go_simp; try with_reducible rfl)
          · (simp only [Act.put, List.setIfInBounds_toArray, List.set_cons_zero, List.set_cons_succ]; try rfl)
          refine takeH (i := 1) (v := ?_) (a' := ?_) ({ dst := some 100, op := Op.fieldAddr 37 (Operand.tmp 5) 2, type := 0, pos := "law.go:189", after := #[], guard := none }) rfl (by kernel_rfl) (by kernel_rfl) (by kernel_rfl) (fun _ _ _ h => h) (by rfl) ?_ (by assumption) ?_ ?_
          rotate_left 2
          · (intro w' hSw; obtain ⟨q0, q1, q2, q3, q4, q5⟩ := BK.six hSw; clear hSw; go_simp; try with_reducible rfl)
          · (simp only [Act.put, List.setIfInBounds_toArray, List.set_cons_zero, List.set_cons_succ]; try rfl)
          refine takeH (i := 2) (v := ?_) (a' := ?_) ({ dst := some 101, op := Op.load 35 (Operand.tmp 100), type := 35, pos := "law.go:189", after := #[{ on := 1, ground := Ground.data }], guard := none }) rfl (by kernel_rfl) (by kernel_rfl) (by kernel_rfl) (fun _ _ _ h => h) (by rfl) ?_ (by assumption) ?_ ?_
          rotate_left 2
          · (intro w' hSw; obtain ⟨q0, q1, q2, q3, q4, q5⟩ := BK.six hSw; clear hSw; go_simp; try with_reducible rfl)
          · (simp only [Act.put, List.setIfInBounds_toArray, List.set_cons_zero, List.set_cons_succ]; try rfl)
          refine takeH (i := 4) (v := ?_) (a' := ?_) ({ dst := some 103, op := Op.load 31 (Operand.tmp 10), type := 31, pos := "law.go:189", after := #[], guard := none }) rfl (by kernel_rfl) (by kernel_rfl) (by kernel_rfl) (fun _ _ _ h => h) (by rfl) ?_ (by assumption) ?_ ?_
          rotate_left 2
          · (intro w' hSw; obtain ⟨q0, q1, q2, q3, q4, q5⟩ := BK.six hSw; clear hSw; go_simp; try with_reducible rfl)
          · (simp only [Act.put, List.setIfInBounds_toArray, List.set_cons_zero, List.set_cons_succ]; try rfl)
          refine takeH (i := 5) (v := ?_) (a' := ?_) ({ dst := some 104, op := Op.fieldAddr 37 (Operand.tmp 5) 3, type := 0, pos := "law.go:189", after := #[], guard := none }) rfl (by kernel_rfl) (by kernel_rfl) (by kernel_rfl) (fun _ _ _ h => h) (by rfl) ?_ (by assumption) ?_ ?_
          rotate_left 2
          · (intro w' hSw; obtain ⟨q0, q1, q2, q3, q4, q5⟩ := BK.six hSw; clear hSw; go_simp; try with_reducible rfl)
          · (simp only [Act.put, List.setIfInBounds_toArray, List.set_cons_zero, List.set_cons_succ]; try rfl)
          refine takeH (i := 6) (v := ?_) (a' := ?_) ({ dst := some 105, op := Op.load 35 (Operand.tmp 104), type := 35, pos := "law.go:189", after := #[{ on := 5, ground := Ground.data }], guard := none }) rfl (by kernel_rfl) (by kernel_rfl) (by kernel_rfl) (fun _ _ _ h => h) (by rfl) ?_ (by assumption) ?_ ?_
          rotate_left 2
          · (intro w' hSw; obtain ⟨q0, q1, q2, q3, q4, q5⟩ := BK.six hSw; clear hSw; go_simp; try with_reducible rfl)
          · (simp only [Act.put, List.setIfInBounds_toArray, List.set_cons_zero, List.set_cons_succ]; try rfl)
          have hdk0 := hid hbk.out.drew
          clear hHeld hbk
          generalize wx.drew = y0 at hdk0 ⊢
          refine wpAnyH_ready (rs := [3, 8, 9]) (by kernel_rfl) (by simp) ?_
          refine (AllReadyH.cons (o := { dst := some 102, op := Op.call { callee := Callee.value (Operand.func 25), args := #[Operand.tmp 99, Operand.tmp 101, Operand.const (Value.bool false)], argTypes := #[31, 35, 4] }, type := 35, pos := "law.go:189", after := #[{ on := 0, ground := Ground.data }, { on := 2, ground := Ground.data }], guard := none }) rfl (fun K hK => ?_) (AllReadyH.cons (o := { dst := some 16, op := Op.alloc 35, type := 0, pos := "law.go:189", after := #[], guard := none }) rfl (fun K hK => ?_) (AllReadyH.cons (o := { dst := some 17, op := Op.alloc 35, type := 0, pos := "law.go:189", after := #[], guard := none }) rfl (fun K hK => ?_) AllReadyH.nil)))
          · skip
            go_simp
            refine (hcor.out _ _ y0 hdk0.out.1).mono ?_
            rintro x y1 ⟨pu, pb, rfl, hpu, hpc, b2⟩
            replace hpc := hid hpc
            have hdk1 := hid (hdk0.out.below b2)
            clear b2
            try go_wp2_with fail
            refine hK.out _ _ hdk1.out (fun hHeld => ?_)
            clear hK K hHeld
            try simp only [Act.put, List.setIfInBounds_toArray, List.set_cons_zero, List.set_cons_succ]
            refine wpAnyH_ready (rs := [7, 8, 9]) (by kernel_rfl) (by simp) ?_
            refine (AllReadyH.cons (o := { dst := some 106, op := Op.call { callee := Callee.value (Operand.func 25), args := #[Operand.tmp 103, Operand.tmp 105, Operand.const (Value.bool false)], argTypes := #[31, 35, 4] }, type := 35, pos := "law.go:189", after := #[{ on := 4, ground := Ground.data }, { on := 6, ground := Ground.data }, { on := 3, ground := Ground.chain }], guard := none }) rfl (fun K hK => ?_) (AllReadyH.cons (o := { dst := some 16, op := Op.alloc 35, type := 0, pos := "law.go:189", after := #[], guard := none }) rfl (fun K hK => ?_) (AllReadyH.cons (o := { dst := some 17, op := Op.alloc 35, type := 0, pos := "law.go:189", after := #[], guard := none }) rfl (fun K hK => ?_) AllReadyH.nil)))
            · skip
              go_simp
              refine (hcor.out _ _ y1 hdk1.out.1).mono ?_
              rintro x y2 ⟨qu, qb, rfl, hqu, hqc, b2⟩
              replace hqc := hid hqc
              have hdk2 := hid (hdk1.out.below b2)
              clear b2
              try go_wp2_with fail
              refine hK.out _ _ hdk2.out (fun hHeld => ?_)
              clear hK K hHeld
              try simp only [Act.put, List.setIfInBounds_toArray, List.set_cons_zero, List.set_cons_succ]
              refine wpAnyH_ready (rs := [8, 9]) (by kernel_rfl) (by simp) ?_
              refine (AllReadyH.cons (o := { dst := some 16, op := Op.alloc 35, type := 0, pos := "law.go:189", after := #[], guard := none }) rfl (fun K hK => ?_) (AllReadyH.cons (o := { dst := some 17, op := Op.alloc 35, type := 0, pos := "law.go:189", after := #[], guard := none }) rfl (fun K hK => ?_) AllReadyH.nil))
              · skip
                go_simp
                refine hK.out _ _ (hdk2.out.below (balloc _ _)) (fun hHeld => ?_)
                clear hK K hHeld
                try simp only [Act.put, List.setIfInBounds_toArray, List.set_cons_zero, List.set_cons_succ]
                obtain ⟨y3, hy⟩ : ∃ y, y2.alloc (.cells #[.int .i64 0, .int .i64 0] 35) = y := ⟨_, rfl⟩
                have hdk3 : Hid (BK wx w.heap.size w2.heap.size ad V cap ⟨qk, qe, qa0, qa1, qb0, qb1⟩ y3) := by rw [← hy]; exact hid (hdk2.out.below (balloc _ _))
                have hP3 : Hid (y3.heap[y2.heap.size]? = some zp) := by rw [← hy]; exact hid (heap_alloc_new _ _)
                have hlP : wx.heap.size ≤ y2.heap.size := hdk2.out.1.size
                rw [hy]
                clear hy
                refine wpAnyH_ready (rs := [9]) (by kernel_rfl) (by simp) ?_
                refine (AllReadyH.cons (o := { dst := some 17, op := Op.alloc 35, type := 0, pos := "law.go:189", after := #[], guard := none }) rfl (fun K hK => ?_) AllReadyH.nil)
                go_simp
                refine hK.out _ _ (hdk3.out.below (balloc _ _)) (fun hHeld => ?_)
                clear hK K hHeld
                try simp only [Act.put, List.setIfInBounds_toArray, List.set_cons_zero, List.set_cons_succ]
                obtain ⟨y4, hy⟩ : ∃ y, y3.alloc (.cells #[.int .i64 0, .int .i64 0] 35) = y := ⟨_, rfl⟩
                have hdk4 : Hid (BK wx w.heap.size w2.heap.size ad V cap ⟨qk, qe, qa0, qa1, qb0, qb1⟩ y4) := by rw [← hy]; exact hid (hdk3.out.below (balloc _ _))
                have hQ4 : Hid (y4.heap[y3.heap.size]? = some zp) := by rw [← hy]; exact hid (heap_alloc_new _ _)
                have hlQ : wx.heap.size ≤ y3.heap.size := hdk3.out.1.size
                have hP4 : Hid (y4.heap[y2.heap.size]? = some zp) := by rw [← hy]; exact hid (al_keep hP3.out)
                have hPQ : y2.heap.size ≠ y3.heap.size := by have := (Array.getElem?_eq_some_iff.1 hP3.out).1; omega
                rw [hy]
                clear hy
                refine wpAnyH_ready (rs := [10]) (by kernel_rfl) (by simp) ?_
                refine (AllReadyH.cons (o := { dst := none, op := Op.store 35 (Operand.tmp 16) (Operand.tmp 102), type := 0, pos := "law.go:189", after := #[{ on := 8, ground := Ground.data }, { on := 3, ground := Ground.data }, { on := 7, ground := Ground.chain }, { on := 0, ground := Ground.phase }, { on := 1, ground := Ground.phase }, { on := 2, ground := Ground.phase }, { on := 3, ground := Ground.phase }, { on := 4, ground := Ground.textOnly Departure.lateStores }, { on := 5, ground := Ground.textOnly Departure.lateStores }, { on := 6, ground := Ground.textOnly Departure.lateStores }, { on := 7, ground := Ground.textOnly Departure.lateStoresUnsure }, { on := 8, ground := Ground.phase }, { on := 9, ground := Ground.phase }], guard := none }) rfl (fun K hK => ?_) AllReadyH.nil)
                obtain ⟨z1, z2, z3, z4⟩ := blk2 hP4.out
                go_simp
                try go_wp2_with fail
                refine hK.out _ _ (hdk4.out.set2 hlP _ _) (fun hHeld => ?_)
                clear hK K hHeld z1 z2 z3 z4
                try simp only [Act.put, List.setIfInBounds_toArray, List.set_cons_zero, List.set_cons_succ]
                obtain ⟨y5, hy⟩ : ∃ y, (y4.setCell ⟨y2.heap.size, 0, none⟩ (.int .i64 (pu : Int))).setCell ⟨y2.heap.size, 1, none⟩ (.int .i64 pb) = y := ⟨_, rfl⟩
                have hdk5 : Hid (BK wx w.heap.size w2.heap.size ad V cap ⟨qk, qe, qa0, qa1, qb0, qb1⟩ y5) := by rw [← hy]; exact hid (hdk4.out.set2 hlP _ _)
                have hP5 : Hid (y5.heap[y2.heap.size]? = some (.cells #[.int .i64 (pu : Int), .int .i64 pb] 35 (0, 0))) := by rw [← hy]; exact hid (set2_block hP4.out _ _)
                have hQ5 : Hid (y5.heap[y3.heap.size]? = some zp) := by rw [← hy, Below.heap_setCell _ _ _ _ (by show y3.heap.size ≠ y2.heap.size; omega), Below.heap_setCell _ _ _ _ (by show y3.heap.size ≠ y2.heap.size; omega)]; exact hQ4
                rw [hy]
                clear hy
                refine wpAnyH_ready (rs := [11]) (by kernel_rfl) (by simp) ?_
                refine (AllReadyH.cons (o := { dst := none, op := Op.store 35 (Operand.tmp 17) (Operand.tmp 106), type := 0, pos := "law.go:189", after := #[{ on := 9, ground := Ground.data }, { on := 7, ground := Ground.data }, { on := 10, ground := Ground.chain }, { on := 0, ground := Ground.phase }, { on := 1, ground := Ground.phase }, { on := 2, ground := Ground.phase }, { on := 3, ground := Ground.phase }, { on := 4, ground := Ground.phase }, { on := 5, ground := Ground.phase }, { on := 6, ground := Ground.phase }, { on := 7, ground := Ground.phase }, { on := 8, ground := Ground.phase }, { on := 9, ground := Ground.phase }, { on := 10, ground := Ground.phase }], guard := none }) rfl (fun K hK => ?_) AllReadyH.nil)
                obtain ⟨z1, z2, z3, z4⟩ := blk2 hQ5.out
                go_simp
                try go_wp2_with fail
                refine hK.out _ _ (hdk5.out.set2 hlQ _ _) (fun hHeld => ?_)
                clear hK K hHeld z1 z2 z3 z4
                try simp only [Act.put, List.setIfInBounds_toArray, List.set_cons_zero, List.set_cons_succ]
                obtain ⟨y6, hy⟩ : ∃ y, (y5.setCell ⟨y3.heap.size, 0, none⟩ (.int .i64 (qu : Int))).setCell ⟨y3.heap.size, 1, none⟩ (.int .i64 qb) = y := ⟨_, rfl⟩
                have hdk6 : Hid (BK wx w.heap.size w2.heap.size ad V cap ⟨qk, qe, qa0, qa1, qb0, qb1⟩ y6) := by rw [← hy]; exact hid (hdk5.out.set2 hlQ _ _)
                have hQ6 : Hid (y6.heap[y3.heap.size]? = some (.cells #[.int .i64 (qu : Int), .int .i64 qb] 35 (0, 0))) := by rw [← hy]; exact hid (set2_block hQ5.out _ _)
                have hP6 : Hid (y6.heap[y2.heap.size]? = some (.cells #[.int .i64 (pu : Int), .int .i64 pb] 35 (0, 0))) := by rw [← hy, Below.heap_setCell _ _ _ _ (by show y2.heap.size ≠ y3.heap.size; omega), Below.heap_setCell _ _ _ _ (by show y2.heap.size ≠ y3.heap.size; omega)]; exact hP5
                rw [hy]
                clear hy
                refine wpAnyH_done (by kernel_rfl) ?_ _
                refine NoPanic.normal ?_
                go_wp2_with fail
                go_meet
                case rel => exact ⟨_, _, pu, pb, qu, qb, rfl, rfl, hdk6.out, hpu, hpc, hqu, hqc, hP6.out, hQ6.out⟩
              · skip
                go_simp
                refine hK.out _ _ (hdk2.out.below (balloc _ _)) (fun hHeld => ?_)
                clear hK K hHeld
                try simp only [Act.put, List.setIfInBounds_toArray, List.set_cons_zero, List.set_cons_succ]
                obtain ⟨y7, hy⟩ : ∃ y, y2.alloc (.cells #[.int .i64 0, .int .i64 0] 35) = y := ⟨_, rfl⟩
                have hdk7 : Hid (BK wx w.heap.size w2.heap.size ad V cap ⟨qk, qe, qa0, qa1, qb0, qb1⟩ y7) := by rw [← hy]; exact hid (hdk2.out.below (balloc _ _))
                have hQ7 : Hid (y7.heap[y2.heap.size]? = some zp) := by rw [← hy]; exact hid (heap_alloc_new _ _)
                have hlQ : wx.heap.size ≤ y2.heap.size := hdk2.out.1.size
                rw [hy]
                clear hy
                refine wpAnyH_ready (rs := [8]) (by kernel_rfl) (by simp) ?_
                refine (AllReadyH.cons (o := { dst := some 16, op := Op.alloc 35, type := 0, pos := "law.go:189", after := #[], guard := none }) rfl (fun K hK => ?_) AllReadyH.nil)
                go_simp
                refine hK.out _ _ (hdk7.out.below (balloc _ _)) (fun hHeld => ?_)
                clear hK K hHeld
                try simp only [Act.put, List.setIfInBounds_toArray, List.set_cons_zero, List.set_cons_succ]
                obtain ⟨y8, hy⟩ : ∃ y, y7.alloc (.cells #[.int .i64 0, .int .i64 0] 35) = y := ⟨_, rfl⟩
                have hdk8 : Hid (BK wx w.heap.size w2.heap.size ad V cap ⟨qk, qe, qa0, qa1, qb0, qb1⟩ y8) := by rw [← hy]; exact hid (hdk7.out.below (balloc _ _))
                have hP8 : Hid (y8.heap[y7.heap.size]? = some zp) := by rw [← hy]; exact hid (heap_alloc_new _ _)
                have hlP : wx.heap.size ≤ y7.heap.size := hdk7.out.1.size
                have hQ8 : Hid (y8.heap[y2.heap.size]? = some zp) := by rw [← hy]; exact hid (al_keep hQ7.out)
                have hPQ : y2.heap.size ≠ y7.heap.size := by have := (Array.getElem?_eq_some_iff.1 hQ7.out).1; omega
                rw [hy]
                clear hy
                refine wpAnyH_ready (rs := [10]) (by kernel_rfl) (by simp) ?_
                refine (AllReadyH.cons (o := { dst := none, op := Op.store 35 (Operand.tmp 16) (Operand.tmp 102), type := 0, pos := "law.go:189", after := #[{ on := 8, ground := Ground.data }, { on := 3, ground := Ground.data }, { on := 7, ground := Ground.chain }, { on := 0, ground := Ground.phase }, { on := 1, ground := Ground.phase }, { on := 2, ground := Ground.phase }, { on := 3, ground := Ground.phase }, { on := 4, ground := Ground.textOnly Departure.lateStores }, { on := 5, ground := Ground.textOnly Departure.lateStores }, { on := 6, ground := Ground.textOnly Departure.lateStores }, { on := 7, ground := Ground.textOnly Departure.lateStoresUnsure }, { on := 8, ground := Ground.phase }, { on := 9, ground := Ground.phase }], guard := none }) rfl (fun K hK => ?_) AllReadyH.nil)
                obtain ⟨z1, z2, z3, z4⟩ := blk2 hP8.out
                go_simp
                try go_wp2_with fail
                refine hK.out _ _ (hdk8.out.set2 hlP _ _) (fun hHeld => ?_)
                clear hK K hHeld z1 z2 z3 z4
                try simp only [Act.put, List.setIfInBounds_toArray, List.set_cons_zero, List.set_cons_succ]
                obtain ⟨y9, hy⟩ : ∃ y, (y8.setCell ⟨y7.heap.size, 0, none⟩ (.int .i64 (pu : Int))).setCell ⟨y7.heap.size, 1, none⟩ (.int .i64 pb) = y := ⟨_, rfl⟩
                have hdk9 : Hid (BK wx w.heap.size w2.heap.size ad V cap ⟨qk, qe, qa0, qa1, qb0, qb1⟩ y9) := by rw [← hy]; exact hid (hdk8.out.set2 hlP _ _)
                have hP9 : Hid (y9.heap[y7.heap.size]? = some (.cells #[.int .i64 (pu : Int), .int .i64 pb] 35 (0, 0))) := by rw [← hy]; exact hid (set2_block hP8.out _ _)
                have hQ9 : Hid (y9.heap[y2.heap.size]? = some zp) := by rw [← hy, Below.heap_setCell _ _ _ _ (by show y2.heap.size ≠ y7.heap.size; omega), Below.heap_setCell _ _ _ _ (by show y2.heap.size ≠ y7.heap.size; omega)]; exact hQ8
                rw [hy]
                clear hy
                refine wpAnyH_ready (rs := [11]) (by kernel_rfl) (by simp) ?_
                refine (AllReadyH.cons (o := { dst := none, op := Op.store 35 (Operand.tmp 17) (Operand.tmp 106), type := 0, pos := "law.go:189", after := #[{ on := 9, ground := Ground.data }, { on := 7, ground := Ground.data }, { on := 10, ground := Ground.chain }, { on := 0, ground := Ground.phase }, { on := 1, ground := Ground.phase }, { on := 2, ground := Ground.phase }, { on := 3, ground := Ground.phase }, { on := 4, ground := Ground.phase }, { on := 5, ground := Ground.phase }, { on := 6, ground := Ground.phase }, { on := 7, ground := Ground.phase }, { on := 8, ground := Ground.phase }, { on := 9, ground := Ground.phase }, { on := 10, ground := Ground.phase }], guard := none }) rfl (fun K hK => ?_) AllReadyH.nil)
                obtain ⟨z1, z2, z3, z4⟩ := blk2 hQ9.out
                go_simp
                try go_wp2_with fail
                refine hK.out _ _ (hdk9.out.set2 hlQ _ _) (fun hHeld => ?_)
                clear hK K hHeld z1 z2 z3 z4
                try simp only [Act.put, List.setIfInBounds_toArray, List.set_cons_zero, List.set_cons_succ]
                obtain ⟨y10, hy⟩ : ∃ y, (y9.setCell ⟨y2.heap.size, 0, none⟩ (.int .i64 (qu : Int))).setCell ⟨y2.heap.size, 1, none⟩ (.int .i64 qb) = y := ⟨_, rfl⟩
                have hdk10 : Hid (BK wx w.heap.size w2.heap.size ad V cap ⟨qk, qe, qa0, qa1, qb0, qb1⟩ y10) := by rw [← hy]; exact hid (hdk9.out.set2 hlQ _ _)
                have hQ10 : Hid (y10.heap[y2.heap.size]? = some (.cells #[.int .i64 (qu : Int), .int .i64 qb] 35 (0, 0))) := by rw [← hy]; exact hid (set2_block hQ9.out _ _)
                have hP10 : Hid (y10.heap[y7.heap.size]? = some (.cells #[.int .i64 (pu : Int), .int .i64 pb] 35 (0, 0))) := by rw [← hy, Below.heap_setCell _ _ _ _ (by show y7.heap.size ≠ y2.heap.size; omega), Below.heap_setCell _ _ _ _ (by show y7.heap.size ≠ y2.heap.size; omega)]; exact hP9
                rw [hy]
                clear hy
                refine wpAnyH_done (by kernel_rfl) ?_ _
                refine NoPanic.normal ?_
                go_wp2_with fail
                go_meet
                case rel => exact ⟨_, _, pu, pb, qu, qb, rfl, rfl, hdk10.out, hpu, hpc, hqu, hqc, hP10.out, hQ10.out⟩
            · skip
              go_simp
              refine hK.out _ _ (hdk1.out.below (balloc _ _)) (fun hHeld => ?_)
              clear hK K hHeld
              try simp only [Act.put, List.setIfInBounds_toArray, List.set_cons_zero, List.set_cons_succ]
              obtain ⟨y11, hy⟩ : ∃ y, y1.alloc (.cells #[.int .i64 0, .int .i64 0] 35) = y := ⟨_, rfl⟩
              have hdk11 : Hid (BK wx w.heap.size w2.heap.size ad V cap ⟨qk, qe, qa0, qa1, qb0, qb1⟩ y11) := by rw [← hy]; exact hid (hdk1.out.below (balloc _ _))
              have hP11 : Hid (y11.heap[y1.heap.size]? = some zp) := by rw [← hy]; exact hid (heap_alloc_new _ _)
              have hlP : wx.heap.size ≤ y1.heap.size := hdk1.out.1.size
              rw [hy]
              clear hy
              refine wpAnyH_ready (rs := [7, 9]) (by kernel_rfl) (by simp) ?_
              refine (AllReadyH.cons (o := { dst := some 106, op := Op.call { callee := Callee.value (Operand.func 25), args := #[Operand.tmp 103, Operand.tmp 105, Operand.const (Value.bool false)], argTypes := #[31, 35, 4] }, type := 35, pos := "law.go:189", after := #[{ on := 4, ground := Ground.data }, { on := 6, ground := Ground.data }, { on := 3, ground := Ground.chain }], guard := none }) rfl (fun K hK => ?_) (AllReadyH.cons (o := { dst := some 17, op := Op.alloc 35, type := 0, pos := "law.go:189", after := #[], guard := none }) rfl (fun K hK => ?_) AllReadyH.nil))
              · skip
                go_simp
                refine (hcor.out _ _ y11 hdk11.out.1).mono ?_
                rintro x y12 ⟨qu, qb, rfl, hqu, hqc, b2⟩
                replace hqc := hid hqc
                have hdk12 := hid (hdk11.out.below b2)
                have hP12 := hid ((b2.block _ (Array.getElem?_eq_some_iff.1 hP11.out).1).trans hP11.out)
                clear b2
                try go_wp2_with fail
                refine hK.out _ _ hdk12.out (fun hHeld => ?_)
                clear hK K hHeld
                try simp only [Act.put, List.setIfInBounds_toArray, List.set_cons_zero, List.set_cons_succ]
                refine wpAnyH_ready (rs := [9]) (by kernel_rfl) (by simp) ?_
                refine (AllReadyH.cons (o := { dst := some 17, op := Op.alloc 35, type := 0, pos := "law.go:189", after := #[], guard := none }) rfl (fun K hK => ?_) AllReadyH.nil)
                go_simp
                refine hK.out _ _ (hdk12.out.below (balloc _ _)) (fun hHeld => ?_)
                clear hK K hHeld
                try simp only [Act.put, List.setIfInBounds_toArray, List.set_cons_zero, List.set_cons_succ]
                obtain ⟨y13, hy⟩ : ∃ y, y12.alloc (.cells #[.int .i64 0, .int .i64 0] 35) = y := ⟨_, rfl⟩
                have hdk13 : Hid (BK wx w.heap.size w2.heap.size ad V cap ⟨qk, qe, qa0, qa1, qb0, qb1⟩ y13) := by rw [← hy]; exact hid (hdk12.out.below (balloc _ _))
                have hQ13 : Hid (y13.heap[y12.heap.size]? = some zp) := by rw [← hy]; exact hid (heap_alloc_new _ _)
                have hlQ : wx.heap.size ≤ y12.heap.size := hdk12.out.1.size
                have hP13 : Hid (y13.heap[y1.heap.size]? = some zp) := by rw [← hy]; exact hid (al_keep hP12.out)
                have hPQ : y1.heap.size ≠ y12.heap.size := by have := (Array.getElem?_eq_some_iff.1 hP12.out).1; omega
                rw [hy]
                clear hy
                refine wpAnyH_ready (rs := [10]) (by kernel_rfl) (by simp) ?_
                refine (AllReadyH.cons (o := { dst := none, op := Op.store 35 (Operand.tmp 16) (Operand.tmp 102), type := 0, pos := "law.go:189", after := #[{ on := 8, ground := Ground.data }, { on := 3, ground := Ground.data }, { on := 7, ground := Ground.chain }, { on := 0, ground := Ground.phase }, { on := 1, ground := Ground.phase }, { on := 2, ground := Ground.phase }, { on := 3, ground := Ground.phase }, { on := 4, ground := Ground.textOnly Departure.lateStores }, { on := 5, ground := Ground.textOnly Departure.lateStores }, { on := 6, ground := Ground.textOnly Departure.lateStores }, { on := 7, ground := Ground.textOnly Departure.lateStoresUnsure }, { on := 8, ground := Ground.phase }, { on := 9, ground := Ground.phase }], guard := none }) rfl (fun K hK => ?_) AllReadyH.nil)
                obtain ⟨z1, z2, z3, z4⟩ := blk2 hP13.out
                go_simp
                try go_wp2_with fail
                refine hK.out _ _ (hdk13.out.set2 hlP _ _) (fun hHeld => ?_)
                clear hK K hHeld z1 z2 z3 z4
                try simp only [Act.put, List.setIfInBounds_toArray, List.set_cons_zero, List.set_cons_succ]
                obtain ⟨y14, hy⟩ : ∃ y, (y13.setCell ⟨y1.heap.size, 0, none⟩ (.int .i64 (pu : Int))).setCell ⟨y1.heap.size, 1, none⟩ (.int .i64 pb) = y := ⟨_, rfl⟩
                have hdk14 : Hid (BK wx w.heap.size w2.heap.size ad V cap ⟨qk, qe, qa0, qa1, qb0, qb1⟩ y14) := by rw [← hy]; exact hid (hdk13.out.set2 hlP _ _)
                have hP14 : Hid (y14.heap[y1.heap.size]? = some (.cells #[.int .i64 (pu : Int), .int .i64 pb] 35 (0, 0))) := by rw [← hy]; exact hid (set2_block hP13.out _ _)
                have hQ14 : Hid (y14.heap[y12.heap.size]? = some zp) := by rw [← hy, Below.heap_setCell _ _ _ _ (by show y12.heap.size ≠ y1.heap.size; omega), Below.heap_setCell _ _ _ _ (by show y12.heap.size ≠ y1.heap.size; omega)]; exact hQ13
                rw [hy]
                clear hy
                refine wpAnyH_ready (rs := [11]) (by kernel_rfl) (by simp) ?_
                refine (AllReadyH.cons (o := { dst := none, op := Op.store 35 (Operand.tmp 17) (Operand.tmp 106), type := 0, pos := "law.go:189", after := #[{ on := 9, ground := Ground.data }, { on := 7, ground := Ground.data }, { on := 10, ground := Ground.chain }, { on := 0, ground := Ground.phase }, { on := 1, ground := Ground.phase }, { on := 2, ground := Ground.phase }, { on := 3, ground := Ground.phase }, { on := 4, ground := Ground.phase }, { on := 5, ground := Ground.phase }, { on := 6, ground := Ground.phase }, { on := 7, ground := Ground.phase }, { on := 8, ground := Ground.phase }, { on := 9, ground := Ground.phase }, { on := 10, ground := Ground.phase }], guard := none }) rfl (fun K hK => ?_) AllReadyH.nil)
                obtain ⟨z1, z2, z3, z4⟩ := blk2 hQ14.out
                go_simp
                try go_wp2_with fail
                refine hK.out _ _ (hdk14.out.set2 hlQ _ _) (fun hHeld => ?_)
                clear hK K hHeld z1 z2 z3 z4
                try simp only [Act.put, List.setIfInBounds_toArray, List.set_cons_zero, List.set_cons_succ]
                obtain ⟨y15, hy⟩ : ∃ y, (y14.setCell ⟨y12.heap.size, 0, none⟩ (.int .i64 (qu : Int))).setCell ⟨y12.heap.size, 1, none⟩ (.int .i64 qb) = y := ⟨_, rfl⟩
                have hdk15 : Hid (BK wx w.heap.size w2.heap.size ad V cap ⟨qk, qe, qa0, qa1, qb0, qb1⟩ y15) := by rw [← hy]; exact hid (hdk14.out.set2 hlQ _ _)
                have hQ15 : Hid (y15.heap[y12.heap.size]? = some (.cells #[.int .i64 (qu : Int), .int .i64 qb] 35 (0, 0))) := by rw [← hy]; exact hid (set2_block hQ14.out _ _)
                have hP15 : Hid (y15.heap[y1.heap.size]? = some (.cells #[.int .i64 (pu : Int), .int .i64 pb] 35 (0, 0))) := by rw [← hy, Below.heap_setCell _ _ _ _ (by show y1.heap.size ≠ y12.heap.size; omega), Below.heap_setCell _ _ _ _ (by show y1.heap.size ≠ y12.heap.size; omega)]; exact hP14
                rw [hy]
                clear hy
                refine wpAnyH_done (by kernel_rfl) ?_ _
                refine NoPanic.normal ?_
                go_wp2_with fail
                go_meet
                case rel => exact ⟨_, _, pu, pb, qu, qb, rfl, rfl, hdk15.out, hpu, hpc, hqu, hqc, hP15.out, hQ15.out⟩
              · skip
                go_simp
                refine hK.out _ _ (hdk11.out.below (balloc _ _)) (fun hHeld => ?_)
                clear hK K hHeld
                try simp only [Act.put, List.setIfInBounds_toArray, List.set_cons_zero, List.set_cons_succ]
                obtain ⟨y16, hy⟩ : ∃ y, y11.alloc (.cells #[.int .i64 0, .int .i64 0] 35) = y := ⟨_, rfl⟩
                have hdk16 : Hid (BK wx w.heap.size w2.heap.size ad V cap ⟨qk, qe, qa0, qa1, qb0, qb1⟩ y16) := by rw [← hy]; exact hid (hdk11.out.below (balloc _ _))
                have hQ16 : Hid (y16.heap[y11.heap.size]? = some zp) := by rw [← hy]; exact hid (heap_alloc_new _ _)
                have hlQ : wx.heap.size ≤ y11.heap.size := hdk11.out.1.size
                have hP16 : Hid (y16.heap[y1.heap.size]? = some zp) := by rw [← hy]; exact hid (al_keep hP11.out)
                have hPQ : y1.heap.size ≠ y11.heap.size := by have := (Array.getElem?_eq_some_iff.1 hP11.out).1; omega
                rw [hy]
                clear hy
                refine wpAnyH_ready (rs := [7]) (by kernel_rfl) (by simp) ?_
                refine (AllReadyH.cons (o := { dst := some 106, op := Op.call { callee := Callee.value (Operand.func 25), args := #[Operand.tmp 103, Operand.tmp 105, Operand.const (Value.bool false)], argTypes := #[31, 35, 4] }, type := 35, pos := "law.go:189", after := #[{ on := 4, ground := Ground.data }, { on := 6, ground := Ground.data }, { on := 3, ground := Ground.chain }], guard := none }) rfl (fun K hK => ?_) AllReadyH.nil)
                go_simp
                refine (hcor.out _ _ y16 hdk16.out.1).mono ?_
                rintro x y17 ⟨qu, qb, rfl, hqu, hqc, b2⟩
                replace hqc := hid hqc
                have hdk17 := hid (hdk16.out.below b2)
                have hP17 := hid ((b2.block _ (Array.getElem?_eq_some_iff.1 hP16.out).1).trans hP16.out)
                have hQ17 := hid ((b2.block _ (Array.getElem?_eq_some_iff.1 hQ16.out).1).trans hQ16.out)
                clear b2
                try go_wp2_with fail
                refine hK.out _ _ hdk17.out (fun hHeld => ?_)
                clear hK K hHeld
                try simp only [Act.put, List.setIfInBounds_toArray, List.set_cons_zero, List.set_cons_succ]
                refine wpAnyH_ready (rs := [10]) (by kernel_rfl) (by simp) ?_
                refine (AllReadyH.cons (o := { dst := none, op := Op.store 35 (Operand.tmp 16) (Operand.tmp 102), type := 0, pos := "law.go:189", after := #[{ on := 8, ground := Ground.data }, { on := 3, ground := Ground.data }, { on := 7, ground := Ground.chain }, { on := 0, ground := Ground.phase }, { on := 1, ground := Ground.phase }, { on := 2, ground := Ground.phase }, { on := 3, ground := Ground.phase }, { on := 4, ground := Ground.textOnly Departure.lateStores }, { on := 5, ground := Ground.textOnly Departure.lateStores }, { on := 6, ground := Ground.textOnly Departure.lateStores }, { on := 7, ground := Ground.textOnly Departure.lateStoresUnsure }, { on := 8, ground := Ground.phase }, { on := 9, ground := Ground.phase }], guard := none }) rfl (fun K hK => ?_) AllReadyH.nil)
                obtain ⟨z1, z2, z3, z4⟩ := blk2 hP17.out
                go_simp
                try go_wp2_with fail
                refine hK.out _ _ (hdk17.out.set2 hlP _ _) (fun hHeld => ?_)
                clear hK K hHeld z1 z2 z3 z4
                try simp only [Act.put, List.setIfInBounds_toArray, List.set_cons_zero, List.set_cons_succ]
                obtain ⟨y18, hy⟩ : ∃ y, (y17.setCell ⟨y1.heap.size, 0, none⟩ (.int .i64 (pu : Int))).setCell ⟨y1.heap.size, 1, none⟩ (.int .i64 pb) = y := ⟨_, rfl⟩
                have hdk18 : Hid (BK wx w.heap.size w2.heap.size ad V cap ⟨qk, qe, qa0, qa1, qb0, qb1⟩ y18) := by rw [← hy]; exact hid (hdk17.out.set2 hlP _ _)
                have hP18 : Hid (y18.heap[y1.heap.size]? = some (.cells #[.int .i64 (pu : Int), .int .i64 pb] 35 (0, 0))) := by rw [← hy]; exact hid (set2_block hP17.out _ _)
                have hQ18 : Hid (y18.heap[y11.heap.size]? = some zp) := by rw [← hy, Below.heap_setCell _ _ _ _ (by show y11.heap.size ≠ y1.heap.size; omega), Below.heap_setCell _ _ _ _ (by show y11.heap.size ≠ y1.heap.size; omega)]; exact hQ17
                rw [hy]
                clear hy
                refine wpAnyH_ready (rs := [11]) (by kernel_rfl) (by simp) ?_
                refine (AllReadyH.cons (o := { dst := none, op := Op.store 35 (Operand.tmp 17) (Operand.tmp 106), type := 0, pos := "law.go:189", after := #[{ on := 9, ground := Ground.data }, { on := 7, ground := Ground.data }, { on := 10, ground := Ground.chain }, { on := 0, ground := Ground.phase }, { on := 1, ground := Ground.phase }, { on := 2, ground := Ground.phase }, { on := 3, ground := Ground.phase }, { on := 4, ground := Ground.phase }, { on := 5, ground := Ground.phase }, { on := 6, ground := Ground.phase }, { on := 7, ground := Ground.phase }, { on := 8, ground := Ground.phase }, { on := 9, ground := Ground.phase }, { on := 10, ground := Ground.phase }], guard := none }) rfl (fun K hK => ?_) AllReadyH.nil)
                obtain ⟨z1, z2, z3, z4⟩ := blk2 hQ18.out
                go_simp
                try go_wp2_with fail
                refine hK.out _ _ (hdk18.out.set2 hlQ _ _) (fun hHeld => ?_)
                clear hK K hHeld z1 z2 z3 z4
                try simp only [Act.put, List.setIfInBounds_toArray, List.set_cons_zero, List.set_cons_succ]
                obtain ⟨y19, hy⟩ : ∃ y, (y18.setCell ⟨y11.heap.size, 0, none⟩ (.int .i64 (qu : Int))).setCell ⟨y11.heap.size, 1, none⟩ (.int .i64 qb) = y := ⟨_, rfl⟩
                have hdk19 : Hid (BK wx w.heap.size w2.heap.size ad V cap ⟨qk, qe, qa0, qa1, qb0, qb1⟩ y19) := by rw [← hy]; exact hid (hdk18.out.set2 hlQ _ _)
                have hQ19 : Hid (y19.heap[y11.heap.size]? = some (.cells #[.int .i64 (qu : Int), .int .i64 qb] 35 (0, 0))) := by rw [← hy]; exact hid (set2_block hQ18.out _ _)
                have hP19 : Hid (y19.heap[y1.heap.size]? = some (.cells #[.int .i64 (pu : Int), .int .i64 pb] 35 (0, 0))) := by rw [← hy, Below.heap_setCell _ _ _ _ (by show y1.heap.size ≠ y11.heap.size; omega), Below.heap_setCell _ _ _ _ (by show y1.heap.size ≠ y11.heap.size; omega)]; exact hP18
                rw [hy]
                clear hy
                refine wpAnyH_done (by kernel_rfl) ?_ _
                refine NoPanic.normal ?_
                go_wp2_with fail
                go_meet
                case rel => exact ⟨_, _, pu, pb, qu, qb, rfl, rfl, hdk19.out, hpu, hpc, hqu, hqc, hP19.out, hQ19.out⟩
            · skip
              go_simp
              refine hK.out _ _ (hdk1.out.below (balloc _ _)) (fun hHeld => ?_)
              clear hK K hHeld
              try simp only [Act.put, List.setIfInBounds_toArray, List.set_cons_zero, List.set_cons_succ]
              obtain ⟨y20, hy⟩ : ∃ y, y1.alloc (.cells #[.int .i64 0, .int .i64 0] 35) = y := ⟨_, rfl⟩
              have hdk20 : Hid (BK wx w.heap.size w2.heap.size ad V cap ⟨qk, qe, qa0, qa1, qb0, qb1⟩ y20) := by rw [← hy]; exact hid (hdk1.out.below (balloc _ _))
              have hQ20 : Hid (y20.heap[y1.heap.size]? = some zp) := by rw [← hy]; exact hid (heap_alloc_new _ _)
              have hlQ : wx.heap.size ≤ y1.heap.size := hdk1.out.1.size
              rw [hy]
              clear hy
              refine wpAnyH_ready (rs := [7, 8]) (by kernel_rfl) (by simp) ?_
              refine (AllReadyH.cons (o := { dst := some 106, op := Op.call { callee := Callee.value (Operand.func 25), args := #[Operand.tmp 103, Operand.tmp 105, Operand.const (Value.bool false)], argTypes := #[31, 35, 4] }, type := 35, pos := "law.go:189", after := #[{ on := 4, ground := Ground.data }, { on := 6, ground := Ground.data }, { on := 3, ground := Ground.chain }], guard := none }) rfl (fun K hK => ?_) (AllReadyH.cons (o := { dst := some 16, op := Op.alloc 35, type := 0, pos := "law.go:189", after := #[], guard := none }) rfl (fun K hK => ?_) AllReadyH.nil))
              · skip
                go_simp
                refine (hcor.out _ _ y20 hdk20.out.1).mono ?_
                rintro x y21 ⟨qu, qb, rfl, hqu, hqc, b2⟩
                replace hqc := hid hqc
                have hdk21 := hid (hdk20.out.below b2)
                have hQ21 := hid ((b2.block _ (Array.getElem?_eq_some_iff.1 hQ20.out).1).trans hQ20.out)
                clear b2
                try go_wp2_with fail
                refine hK.out _ _ hdk21.out (fun hHeld => ?_)
                clear hK K hHeld
                try simp only [Act.put, List.setIfInBounds_toArray, List.set_cons_zero, List.set_cons_succ]
                refine wpAnyH_ready (rs := [8]) (by kernel_rfl) (by simp) ?_
                refine (AllReadyH.cons (o := { dst := some 16, op := Op.alloc 35, type := 0, pos := "law.go:189", after := #[], guard := none }) rfl (fun K hK => ?_) AllReadyH.nil)
                go_simp
                refine hK.out _ _ (hdk21.out.below (balloc _ _)) (fun hHeld => ?_)
                clear hK K hHeld
                try simp only [Act.put, List.setIfInBounds_toArray, List.set_cons_zero, List.set_cons_succ]
                obtain ⟨y22, hy⟩ : ∃ y, y21.alloc (.cells #[.int .i64 0, .int .i64 0] 35) = y := ⟨_, rfl⟩
                have hdk22 : Hid (BK wx w.heap.size w2.heap.size ad V cap ⟨qk, qe, qa0, qa1, qb0, qb1⟩ y22) := by rw [← hy]; exact hid (hdk21.out.below (balloc _ _))
                have hP22 : Hid (y22.heap[y21.heap.size]? = some zp) := by rw [← hy]; exact hid (heap_alloc_new _ _)
                have hlP : wx.heap.size ≤ y21.heap.size := hdk21.out.1.size
                have hQ22 : Hid (y22.heap[y1.heap.size]? = some zp) := by rw [← hy]; exact hid (al_keep hQ21.out)
                have hPQ : y1.heap.size ≠ y21.heap.size := by have := (Array.getElem?_eq_some_iff.1 hQ21.out).1; omega
                rw [hy]
                clear hy
                refine wpAnyH_ready (rs := [10]) (by kernel_rfl) (by simp) ?_
                refine (AllReadyH.cons (o := { dst := none, op := Op.store 35 (Operand.tmp 16) (Operand.tmp 102), type := 0, pos := "law.go:189", after := #[{ on := 8, ground := Ground.data }, { on := 3, ground := Ground.data }, { on := 7, ground := Ground.chain }, { on := 0, ground := Ground.phase }, { on := 1, ground := Ground.phase }, { on := 2, ground := Ground.phase }, { on := 3, ground := Ground.phase }, { on := 4, ground := Ground.textOnly Departure.lateStores }, { on := 5, ground := Ground.textOnly Departure.lateStores }, { on := 6, ground := Ground.textOnly Departure.lateStores }, { on := 7, ground := Ground.textOnly Departure.lateStoresUnsure }, { on := 8, ground := Ground.phase }, { on := 9, ground := Ground.phase }], guard := none }) rfl (fun K hK => ?_) AllReadyH.nil)
                obtain ⟨z1, z2, z3, z4⟩ := blk2 hP22.out
                go_simp
                try go_wp2_with fail
                refine hK.out _ _ (hdk22.out.set2 hlP _ _) (fun hHeld => ?_)
                clear hK K hHeld z1 z2 z3 z4
                try simp only [Act.put, List.setIfInBounds_toArray, List.set_cons_zero, List.set_cons_succ]
                obtain ⟨y23, hy⟩ : ∃ y, (y22.setCell ⟨y21.heap.size, 0, none⟩ (.int .i64 (pu : Int))).setCell ⟨y21.heap.size, 1, none⟩ (.int .i64 pb) = y := ⟨_, rfl⟩
                have hdk23 : Hid (BK wx w.heap.size w2.heap.size ad V cap ⟨qk, qe, qa0, qa1, qb0, qb1⟩ y23) := by rw [← hy]; exact hid (hdk22.out.set2 hlP _ _)
                have hP23 : Hid (y23.heap[y21.heap.size]? = some (.cells #[.int .i64 (pu : Int), .int .i64 pb] 35 (0, 0))) := by rw [← hy]; exact hid (set2_block hP22.out _ _)
                have hQ23 : Hid (y23.heap[y1.heap.size]? = some zp) := by rw [← hy, Below.heap_setCell _ _ _ _ (by show y1.heap.size ≠ y21.heap.size; omega), Below.heap_setCell _ _ _ _ (by show y1.heap.size ≠ y21.heap.size; omega)]; exact hQ22
                rw [hy]
                clear hy
                refine wpAnyH_ready (rs := [11]) (by kernel_rfl) (by simp) ?_
                refine (AllReadyH.cons (o := { dst := none, op := Op.store 35 (Operand.tmp 17) (Operand.tmp 106), type := 0, pos := "law.go:189", after := #[{ on := 9, ground := Ground.data }, { on := 7, ground := Ground.data }, { on := 10, ground := Ground.chain }, { on := 0, ground := Ground.phase }, { on := 1, ground := Ground.phase }, { on := 2, ground := Ground.phase }, { on := 3, ground := Ground.phase }, { on := 4, ground := Ground.phase }, { on := 5, ground := Ground.phase }, { on := 6, ground := Ground.phase }, { on := 7, ground := Ground.phase }, { on := 8, ground := Ground.phase }, { on := 9, ground := Ground.phase }, { on := 10, ground := Ground.phase }], guard := none }) rfl (fun K hK => ?_) AllReadyH.nil)
                obtain ⟨z1, z2, z3, z4⟩ := blk2 hQ23.out
                go_simp
                try go_wp2_with fail
                refine hK.out _ _ (hdk23.out.set2 hlQ _ _) (fun hHeld => ?_)
                clear hK K hHeld z1 z2 z3 z4
                try simp only [Act.put, List.setIfInBounds_toArray, List.set_cons_zero, List.set_cons_succ]
                obtain ⟨y24, hy⟩ : ∃ y, (y23.setCell ⟨y1.heap.size, 0, none⟩ (.int .i64 (qu : Int))).setCell ⟨y1.heap.size, 1, none⟩ (.int .i64 qb) = y := ⟨_, rfl⟩
                have hdk24 : Hid (BK wx w.heap.size w2.heap.size ad V cap ⟨qk, qe, qa0, qa1, qb0, qb1⟩ y24) := by rw [← hy]; exact hid (hdk23.out.set2 hlQ _ _)
                have hQ24 : Hid (y24.heap[y1.heap.size]? = some (.cells #[.int .i64 (qu : Int), .int .i64 qb] 35 (0, 0))) := by rw [← hy]; exact hid (set2_block hQ23.out _ _)
                have hP24 : Hid (y24.heap[y21.heap.size]? = some (.cells #[.int .i64 (pu : Int), .int .i64 pb] 35 (0, 0))) := by rw [← hy, Below.heap_setCell _ _ _ _ (by show y21.heap.size ≠ y1.heap.size; omega), Below.heap_setCell _ _ _ _ (by show y21.heap.size ≠ y1.heap.size; omega)]; exact hP23
                rw [hy]
                clear hy
                refine wpAnyH_done (by kernel_rfl) ?_ _
                refine NoPanic.normal ?_
                go_wp2_with fail
                go_meet
                case rel => exact ⟨_, _, pu, pb, qu, qb, rfl, rfl, hdk24.out, hpu, hpc, hqu, hqc, hP24.out, hQ24.out⟩
              · skip
                go_simp
                refine hK.out _ _ (hdk20.out.below (balloc _ _)) (fun hHeld => ?_)
                clear hK K hHeld
                try simp only [Act.put, List.setIfInBounds_toArray, List.set_cons_zero, List.set_cons_succ]
                obtain ⟨y25, hy⟩ : ∃ y, y20.alloc (.cells #[.int .i64 0, .int .i64 0] 35) = y := ⟨_, rfl⟩
                have hdk25 : Hid (BK wx w.heap.size w2.heap.size ad V cap ⟨qk, qe, qa0, qa1, qb0, qb1⟩ y25) := by rw [← hy]; exact hid (hdk20.out.below (balloc _ _))
                have hP25 : Hid (y25.heap[y20.heap.size]? = some zp) := by rw [← hy]; exact hid (heap_alloc_new _ _)
                have hlP : wx.heap.size ≤ y20.heap.size := hdk20.out.1.size
                have hQ25 : Hid (y25.heap[y1.heap.size]? = some zp) := by rw [← hy]; exact hid (al_keep hQ20.out)
                have hPQ : y1.heap.size ≠ y20.heap.size := by have := (Array.getElem?_eq_some_iff.1 hQ20.out).1; omega
                rw [hy]
                clear hy
                refine wpAnyH_ready (rs := [7]) (by kernel_rfl) (by simp) ?_
                refine (AllReadyH.cons (o := { dst := some 106, op := Op.call { callee := Callee.value (Operand.func 25), args := #[Operand.tmp 103, Operand.tmp 105, Operand.const (Value.bool false)], argTypes := #[31, 35, 4] }, type := 35, pos := "law.go:189", after := #[{ on := 4, ground := Ground.data }, { on := 6, ground := Ground.data }, { on := 3, ground := Ground.chain }], guard := none }) rfl (fun K hK => ?_) AllReadyH.nil)
                go_simp
                refine (hcor.out _ _ y25 hdk25.out.1).mono ?_
                rintro x y26 ⟨qu, qb, rfl, hqu, hqc, b2⟩
                replace hqc := hid hqc
                have hdk26 := hid (hdk25.out.below b2)
                have hP26 := hid ((b2.block _ (Array.getElem?_eq_some_iff.1 hP25.out).1).trans hP25.out)
                have hQ26 := hid ((b2.block _ (Array.getElem?_eq_some_iff.1 hQ25.out).1).trans hQ25.out)
                clear b2
                try go_wp2_with fail
                refine hK.out _ _ hdk26.out (fun hHeld => ?_)
                clear hK K hHeld
                try simp only [Act.put, List.setIfInBounds_toArray, List.set_cons_zero, List.set_cons_succ]
                refine wpAnyH_ready (rs := [10]) (by kernel_rfl) (by simp) ?_
                refine (AllReadyH.cons (o := { dst := none, op := Op.store 35 (Operand.tmp 16) (Operand.tmp 102), type := 0, pos := "law.go:189", after := #[{ on := 8, ground := Ground.data }, { on := 3, ground := Ground.data }, { on := 7, ground := Ground.chain }, { on := 0, ground := Ground.phase }, { on := 1, ground := Ground.phase }, { on := 2, ground := Ground.phase }, { on := 3, ground := Ground.phase }, { on := 4, ground := Ground.textOnly Departure.lateStores }, { on := 5, ground := Ground.textOnly Departure.lateStores }, { on := 6, ground := Ground.textOnly Departure.lateStores }, { on := 7, ground := Ground.textOnly Departure.lateStoresUnsure }, { on := 8, ground := Ground.phase }, { on := 9, ground := Ground.phase }], guard := none }) rfl (fun K hK => ?_) AllReadyH.nil)
                obtain ⟨z1, z2, z3, z4⟩ := blk2 hP26.out
                go_simp
                try go_wp2_with fail
                refine hK.out _ _ (hdk26.out.set2 hlP _ _) (fun hHeld => ?_)
                clear hK K hHeld z1 z2 z3 z4
                try simp only [Act.put, List.setIfInBounds_toArray, List.set_cons_zero, List.set_cons_succ]
                obtain ⟨y27, hy⟩ : ∃ y, (y26.setCell ⟨y20.heap.size, 0, none⟩ (.int .i64 (pu : Int))).setCell ⟨y20.heap.size, 1, none⟩ (.int .i64 pb) = y := ⟨_, rfl⟩
                have hdk27 : Hid (BK wx w.heap.size w2.heap.size ad V cap ⟨qk, qe, qa0, qa1, qb0, qb1⟩ y27) := by rw [← hy]; exact hid (hdk26.out.set2 hlP _ _)
                have hP27 : Hid (y27.heap[y20.heap.size]? = some (.cells #[.int .i64 (pu : Int), .int .i64 pb] 35 (0, 0))) := by rw [← hy]; exact hid (set2_block hP26.out _ _)
                have hQ27 : Hid (y27.heap[y1.heap.size]? = some zp) := by rw [← hy, Below.heap_setCell _ _ _ _ (by show y1.heap.size ≠ y20.heap.size; omega), Below.heap_setCell _ _ _ _ (by show y1.heap.size ≠ y20.heap.size; omega)]; exact hQ26
                rw [hy]
                clear hy
                refine wpAnyH_ready (rs := [11]) (by kernel_rfl) (by simp) ?_
                refine (AllReadyH.cons (o := { dst := none, op := Op.store 35 (Operand.tmp 17) (Operand.tmp 106), type := 0, pos := "law.go:189", after := #[{ on := 9, ground := Ground.data }, { on := 7, ground := Ground.data }, { on := 10, ground := Ground.chain }, { on := 0, ground := Ground.phase }, { on := 1, ground := Ground.phase }, { on := 2, ground := Ground.phase }, { on := 3, ground := Ground.phase }, { on := 4, ground := Ground.phase }, { on := 5, ground := Ground.phase }, { on := 6, ground := Ground.phase }, { on := 7, ground := Ground.phase }, { on := 8, ground := Ground.phase }, { on := 9, ground := Ground.phase }, { on := 10, ground := Ground.phase }], guard := none }) rfl (fun K hK => ?_) AllReadyH.nil)
                obtain ⟨z1, z2, z3, z4⟩ := blk2 hQ27.out
                go_simp
                try go_wp2_with fail
                refine hK.out _ _ (hdk27.out.set2 hlQ _ _) (fun hHeld => ?_)
                clear hK K hHeld z1 z2 z3 z4
                try simp only [Act.put, List.setIfInBounds_toArray, List.set_cons_zero, List.set_cons_succ]
                obtain ⟨y28, hy⟩ : ∃ y, (y27.setCell ⟨y1.heap.size, 0, none⟩ (.int .i64 (qu : Int))).setCell ⟨y1.heap.size, 1, none⟩ (.int .i64 qb) = y := ⟨_, rfl⟩
                have hdk28 : Hid (BK wx w.heap.size w2.heap.size ad V cap ⟨qk, qe, qa0, qa1, qb0, qb1⟩ y28) := by rw [← hy]; exact hid (hdk27.out.set2 hlQ _ _)
                have hQ28 : Hid (y28.heap[y1.heap.size]? = some (.cells #[.int .i64 (qu : Int), .int .i64 qb] 35 (0, 0))) := by rw [← hy]; exact hid (set2_block hQ27.out _ _)
                have hP28 : Hid (y28.heap[y20.heap.size]? = some (.cells #[.int .i64 (pu : Int), .int .i64 pb] 35 (0, 0))) := by rw [← hy, Below.heap_setCell _ _ _ _ (by show y20.heap.size ≠ y1.heap.size; omega), Below.heap_setCell _ _ _ _ (by show y20.heap.size ≠ y1.heap.size; omega)]; exact hP27
                rw [hy]
                clear hy
                refine wpAnyH_done (by kernel_rfl) ?_ _
                refine NoPanic.normal ?_
                go_wp2_with fail
                go_meet
                case rel => exact ⟨_, _, pu, pb, qu, qb, rfl, rfl, hdk28.out, hpu, hpc, hqu, hqc, hP28.out, hQ28.out⟩
          · skip
            go_simp
            refine hK.out _ _ (hdk0.out.below (balloc _ _)) (fun hHeld => ?_)
            clear hK K hHeld
            try simp only [Act.put, List.setIfInBounds_toArray, List.set_cons_zero, List.set_cons_succ]
            obtain ⟨y29, hy⟩ : ∃ y, y0.alloc (.cells #[.int .i64 0, .int .i64 0] 35) = y := ⟨_, rfl⟩
            have hdk29 : Hid (BK wx w.heap.size w2.heap.size ad V cap ⟨qk, qe, qa0, qa1, qb0, qb1⟩ y29) := by rw [← hy]; exact hid (hdk0.out.below (balloc _ _))
            have hP29 : Hid (y29.heap[y0.heap.size]? = some zp) := by rw [← hy]; exact hid (heap_alloc_new _ _)
            have hlP : wx.heap.size ≤ y0.heap.size := hdk0.out.1.size
            rw [hy]
            clear hy
            refine wpAnyH_ready (rs := [3, 9]) (by kernel_rfl) (by simp) ?_
            refine (AllReadyH.cons (o := { dst := some 102, op := Op.call { callee := Callee.value (Operand.func 25), args := #[Operand.tmp 99, Operand.tmp 101, Operand.const (Value.bool false)], argTypes := #[31, 35, 4] }, type := 35, pos := "law.go:189", after := #[{ on := 0, ground := Ground.data }, { on := 2, ground := Ground.data }], guard := none }) rfl (fun K hK => ?_) (AllReadyH.cons (o := { dst := some 17, op := Op.alloc 35, type := 0, pos := "law.go:189", after := #[], guard := none }) rfl (fun K hK => ?_) AllReadyH.nil))
            · skip
              go_simp
              refine (hcor.out _ _ y29 hdk29.out.1).mono ?_
              rintro x y30 ⟨pu, pb, rfl, hpu, hpc, b2⟩
              replace hpc := hid hpc
              have hdk30 := hid (hdk29.out.below b2)
              have hP30 := hid ((b2.block _ (Array.getElem?_eq_some_iff.1 hP29.out).1).trans hP29.out)
              clear b2
              try go_wp2_with fail
              refine hK.out _ _ hdk30.out (fun hHeld => ?_)
              clear hK K hHeld
              try simp only [Act.put, List.setIfInBounds_toArray, List.set_cons_zero, List.set_cons_succ]
              refine wpAnyH_ready (rs := [7, 9]) (by kernel_rfl) (by simp) ?_
              refine (AllReadyH.cons (o := { dst := some 106, op := Op.call { callee := Callee.value (Operand.func 25), args := #[Operand.tmp 103, Operand.tmp 105, Operand.const (Value.bool false)], argTypes := #[31, 35, 4] }, type := 35, pos := "law.go:189", after := #[{ on := 4, ground := Ground.data }, { on := 6, ground := Ground.data }, { on := 3, ground := Ground.chain }], guard := none }) rfl (fun K hK => ?_) (AllReadyH.cons (o := { dst := some 17, op := Op.alloc 35, type := 0, pos := "law.go:189", after := #[], guard := none }) rfl (fun K hK => ?_) AllReadyH.nil))
              · skip
                go_simp
                refine (hcor.out _ _ y30 hdk30.out.1).mono ?_
                rintro x y31 ⟨qu, qb, rfl, hqu, hqc, b2⟩
                replace hqc := hid hqc
                have hdk31 := hid (hdk30.out.below b2)
                have hP31 := hid ((b2.block _ (Array.getElem?_eq_some_iff.1 hP30.out).1).trans hP30.out)
                clear b2
                try go_wp2_with fail
                refine hK.out _ _ hdk31.out (fun hHeld => ?_)
                clear hK K hHeld
                try simp only [Act.put, List.setIfInBounds_toArray, List.set_cons_zero, List.set_cons_succ]
                refine wpAnyH_ready (rs := [9]) (by kernel_rfl) (by simp) ?_
                refine (AllReadyH.cons (o := { dst := some 17, op := Op.alloc 35, type := 0, pos := "law.go:189", after := #[], guard := none }) rfl (fun K hK => ?_) AllReadyH.nil)
                go_simp
                refine hK.out _ _ (hdk31.out.below (balloc _ _)) (fun hHeld => ?_)
                clear hK K hHeld
                try simp only [Act.put, List.setIfInBounds_toArray, List.set_cons_zero, List.set_cons_succ]
                obtain ⟨y32, hy⟩ : ∃ y, y31.alloc (.cells #[.int .i64 0, .int .i64 0] 35) = y := ⟨_, rfl⟩
                have hdk32 : Hid (BK wx w.heap.size w2.heap.size ad V cap ⟨qk, qe, qa0, qa1, qb0, qb1⟩ y32) := by rw [← hy]; exact hid (hdk31.out.below (balloc _ _))
                have hQ32 : Hid (y32.heap[y31.heap.size]? = some zp) := by rw [← hy]; exact hid (heap_alloc_new _ _)
                have hlQ : wx.heap.size ≤ y31.heap.size := hdk31.out.1.size
                have hP32 : Hid (y32.heap[y0.heap.size]? = some zp) := by rw [← hy]; exact hid (al_keep hP31.out)
                have hPQ : y0.heap.size ≠ y31.heap.size := by have := (Array.getElem?_eq_some_iff.1 hP31.out).1; omega
                rw [hy]
                clear hy
                refine wpAnyH_ready (rs := [10]) (by kernel_rfl) (by simp) ?_
                refine (AllReadyH.cons (o := { dst := none, op := Op.store 35 (Operand.tmp 16) (Operand.tmp 102), type := 0, pos := "law.go:189", after := #[{ on := 8, ground := Ground.data }, { on := 3, ground := Ground.data }, { on := 7, ground := Ground.chain }, { on := 0, ground := Ground.phase }, { on := 1, ground := Ground.phase }, { on := 2, ground := Ground.phase }, { on := 3, ground := Ground.phase }, { on := 4, ground := Ground.textOnly Departure.lateStores }, { on := 5, ground := Ground.textOnly Departure.lateStores }, { on := 6, ground := Ground.textOnly Departure.lateStores }, { on := 7, ground := Ground.textOnly Departure.lateStoresUnsure }, { on := 8, ground := Ground.phase }, { on := 9, ground := Ground.phase }], guard := none }) rfl (fun K hK => ?_) AllReadyH.nil)
                obtain ⟨z1, z2, z3, z4⟩ := blk2 hP32.out
                go_simp
                try go_wp2_with fail
                refine hK.out _ _ (hdk32.out.set2 hlP _ _) (fun hHeld => ?_)
                clear hK K hHeld z1 z2 z3 z4
                try simp only [Act.put, List.setIfInBounds_toArray, List.set_cons_zero, List.set_cons_succ]
                obtain ⟨y33, hy⟩ : ∃ y, (y32.setCell ⟨y0.heap.size, 0, none⟩ (.int .i64 (pu : Int))).setCell ⟨y0.heap.size, 1, none⟩ (.int .i64 pb) = y := ⟨_, rfl⟩
                have hdk33 : Hid (BK wx w.heap.size w2.heap.size ad V cap ⟨qk, qe, qa0, qa1, qb0, qb1⟩ y33) := by rw [← hy]; exact hid (hdk32.out.set2 hlP _ _)
                have hP33 : Hid (y33.heap[y0.heap.size]? = some (.cells #[.int .i64 (pu : Int), .int .i64 pb] 35 (0, 0))) := by rw [← hy]; exact hid (set2_block hP32.out _ _)
                have hQ33 : Hid (y33.heap[y31.heap.size]? = some zp) := by rw [← hy, Below.heap_setCell _ _ _ _ (by show y31.heap.size ≠ y0.heap.size; omega), Below.heap_setCell _ _ _ _ (by show y31.heap.size ≠ y0.heap.size; omega)]; exact hQ32
                rw [hy]
                clear hy
                refine wpAnyH_ready (rs := [11]) (by kernel_rfl) (by simp) ?_
                refine (AllReadyH.cons (o := { dst := none, op := Op.store 35 (Operand.tmp 17) (Operand.tmp 106), type := 0, pos := "law.go:189", after := #[{ on := 9, ground := Ground.data }, { on := 7, ground := Ground.data }, { on := 10, ground := Ground.chain }, { on := 0, ground := Ground.phase }, { on := 1, ground := Ground.phase }, { on := 2, ground := Ground.phase }, { on := 3, ground := Ground.phase }, { on := 4, ground := Ground.phase }, { on := 5, ground := Ground.phase }, { on := 6, ground := Ground.phase }, { on := 7, ground := Ground.phase }, { on := 8, ground := Ground.phase }, { on := 9, ground := Ground.phase }, { on := 10, ground := Ground.phase }], guard := none }) rfl (fun K hK => ?_) AllReadyH.nil)
                obtain ⟨z1, z2, z3, z4⟩ := blk2 hQ33.out
                go_simp
                try go_wp2_with fail
                refine hK.out _ _ (hdk33.out.set2 hlQ _ _) (fun hHeld => ?_)
                clear hK K hHeld z1 z2 z3 z4
                try simp only [Act.put, List.setIfInBounds_toArray, List.set_cons_zero, List.set_cons_succ]
                obtain ⟨y34, hy⟩ : ∃ y, (y33.setCell ⟨y31.heap.size, 0, none⟩ (.int .i64 (qu : Int))).setCell ⟨y31.heap.size, 1, none⟩ (.int .i64 qb) = y := ⟨_, rfl⟩
                have hdk34 : Hid (BK wx w.heap.size w2.heap.size ad V cap ⟨qk, qe, qa0, qa1, qb0, qb1⟩ y34) := by rw [← hy]; exact hid (hdk33.out.set2 hlQ _ _)
                have hQ34 : Hid (y34.heap[y31.heap.size]? = some (.cells #[.int .i64 (qu : Int), .int .i64 qb] 35 (0, 0))) := by rw [← hy]; exact hid (set2_block hQ33.out _ _)
                have hP34 : Hid (y34.heap[y0.heap.size]? = some (.cells #[.int .i64 (pu : Int), .int .i64 pb] 35 (0, 0))) := by rw [← hy, Below.heap_setCell _ _ _ _ (by show y0.heap.size ≠ y31.heap.size; omega), Below.heap_setCell _ _ _ _ (by show y0.heap.size ≠ y31.heap.size; omega)]; exact hP33
                rw [hy]
                clear hy
                refine wpAnyH_done (by kernel_rfl) ?_ _
                refine NoPanic.normal ?_
                go_wp2_with fail
                go_meet
                case rel => exact ⟨_, _, pu, pb, qu, qb, rfl, rfl, hdk34.out, hpu, hpc, hqu, hqc, hP34.out, hQ34.out⟩
              · skip
                go_simp
                refine hK.out _ _ (hdk30.out.below (balloc _ _)) (fun hHeld => ?_)
                clear hK K hHeld
                try simp only [Act.put, List.setIfInBounds_toArray, List.set_cons_zero, List.set_cons_succ]
                obtain ⟨y35, hy⟩ : ∃ y, y30.alloc (.cells #[.int .i64 0, .int .i64 0] 35) = y := ⟨_, rfl⟩
                have hdk35 : Hid (BK wx w.heap.size w2.heap.size ad V cap ⟨qk, qe, qa0, qa1, qb0, qb1⟩ y35) := by rw [← hy]; exact hid (hdk30.out.below (balloc _ _))
                have hQ35 : Hid (y35.heap[y30.heap.size]? = some zp) := by rw [← hy]; exact hid (heap_alloc_new _ _)
                have hlQ : wx.heap.size ≤ y30.heap.size := hdk30.out.1.size
                have hP35 : Hid (y35.heap[y0.heap.size]? = some zp) := by rw [← hy]; exact hid (al_keep hP30.out)
                have hPQ : y0.heap.size ≠ y30.heap.size := by have := (Array.getElem?_eq_some_iff.1 hP30.out).1; omega
                rw [hy]
                clear hy
                refine wpAnyH_ready (rs := [7]) (by kernel_rfl) (by simp) ?_
                refine (AllReadyH.cons (o := { dst := some 106, op := Op.call { callee := Callee.value (Operand.func 25), args := #[Operand.tmp 103, Operand.tmp 105, Operand.const (Value.bool false)], argTypes := #[31, 35, 4] }, type := 35, pos := "law.go:189", after := #[{ on := 4, ground := Ground.data }, { on := 6, ground := Ground.data }, { on := 3, ground := Ground.chain }], guard := none }) rfl (fun K hK => ?_) AllReadyH.nil)
                go_simp
                refine (hcor.out _ _ y35 hdk35.out.1).mono ?_
                rintro x y36 ⟨qu, qb, rfl, hqu, hqc, b2⟩
                replace hqc := hid hqc
                have hdk36 := hid (hdk35.out.below b2)
                have hP36 := hid ((b2.block _ (Array.getElem?_eq_some_iff.1 hP35.out).1).trans hP35.out)
                have hQ36 := hid ((b2.block _ (Array.getElem?_eq_some_iff.1 hQ35.out).1).trans hQ35.out)
                clear b2
                try go_wp2_with fail
                refine hK.out _ _ hdk36.out (fun hHeld => ?_)
                clear hK K hHeld
                try simp only [Act.put, List.setIfInBounds_toArray, List.set_cons_zero, List.set_cons_succ]
                refine wpAnyH_ready (rs := [10]) (by kernel_rfl) (by simp) ?_
                refine (AllReadyH.cons (o := { dst := none, op := Op.store 35 (Operand.tmp 16) (Operand.tmp 102), type := 0, pos := "law.go:189", after := #[{ on := 8, ground := Ground.data }, { on := 3, ground := Ground.data }, { on := 7, ground := Ground.chain }, { on := 0, ground := Ground.phase }, { on := 1, ground := Ground.phase }, { on := 2, ground := Ground.phase }, { on := 3, ground := Ground.phase }, { on := 4, ground := Ground.textOnly Departure.lateStores }, { on := 5, ground := Ground.textOnly Departure.lateStores }, { on := 6, ground := Ground.textOnly Departure.lateStores }, { on := 7, ground := Ground.textOnly Departure.lateStoresUnsure }, { on := 8, ground := Ground.phase }, { on := 9, ground := Ground.phase }], guard := none }) rfl (fun K hK => ?_) AllReadyH.nil)
                obtain ⟨z1, z2, z3, z4⟩ := blk2 hP36.out
                go_simp
                try go_wp2_with fail
                refine hK.out _ _ (hdk36.out.set2 hlP _ _) (fun hHeld => ?_)
                clear hK K hHeld z1 z2 z3 z4
                try simp only [Act.put, List.setIfInBounds_toArray, List.set_cons_zero, List.set_cons_succ]
                obtain ⟨y37, hy⟩ : ∃ y, (y36.setCell ⟨y0.heap.size, 0, none⟩ (.int .i64 (pu : Int))).setCell ⟨y0.heap.size, 1, none⟩ (.int .i64 pb) = y := ⟨_, rfl⟩
                have hdk37 : Hid (BK wx w.heap.size w2.heap.size ad V cap ⟨qk, qe, qa0, qa1, qb0, qb1⟩ y37) := by rw [← hy]; exact hid (hdk36.out.set2 hlP _ _)
                have hP37 : Hid (y37.heap[y0.heap.size]? = some (.cells #[.int .i64 (pu : Int), .int .i64 pb] 35 (0, 0))) := by rw [← hy]; exact hid (set2_block hP36.out _ _)
                have hQ37 : Hid (y37.heap[y30.heap.size]? = some zp) := by rw [← hy, Below.heap_setCell _ _ _ _ (by show y30.heap.size ≠ y0.heap.size; omega), Below.heap_setCell _ _ _ _ (by show y30.heap.size ≠ y0.heap.size; omega)]; exact hQ36
                rw [hy]
                clear hy
                refine wpAnyH_ready (rs := [11]) (by kernel_rfl) (by simp) ?_
                refine (AllReadyH.cons (o := { dst := none, op := Op.store 35 (Operand.tmp 17) (Operand.tmp 106), type := 0, pos := "law.go:189", after := #[{ on := 9, ground := Ground.data }, { on := 7, ground := Ground.data }, { on := 10, ground := Ground.chain }, { on := 0, ground := Ground.phase }, { on := 1, ground := Ground.phase }, { on := 2, ground := Ground.phase }, { on := 3, ground := Ground.phase }, { on := 4, ground := Ground.phase }, { on := 5, ground := Ground.phase }, { on := 6, ground := Ground.phase }, { on := 7, ground := Ground.phase }, { on := 8, ground := Ground.phase }, { on := 9, ground := Ground.phase }, { on := 10, ground := Ground.phase }], guard := none }) rfl (fun K hK => ?_) AllReadyH.nil)
                obtain ⟨z1, z2, z3, z4⟩ := blk2 hQ37.out
                go_simp
                try go_wp2_with fail
                refine hK.out _ _ (hdk37.out.set2 hlQ _ _) (fun hHeld => ?_)
                clear hK K hHeld z1 z2 z3 z4
                try simp only [Act.put, List.setIfInBounds_toArray, List.set_cons_zero, List.set_cons_succ]
                obtain ⟨y38, hy⟩ : ∃ y, (y37.setCell ⟨y30.heap.size, 0, none⟩ (.int .i64 (qu : Int))).setCell ⟨y30.heap.size, 1, none⟩ (.int .i64 qb) = y := ⟨_, rfl⟩
                have hdk38 : Hid (BK wx w.heap.size w2.heap.size ad V cap ⟨qk, qe, qa0, qa1, qb0, qb1⟩ y38) := by rw [← hy]; exact hid (hdk37.out.set2 hlQ _ _)
                have hQ38 : Hid (y38.heap[y30.heap.size]? = some (.cells #[.int .i64 (qu : Int), .int .i64 qb] 35 (0, 0))) := by rw [← hy]; exact hid (set2_block hQ37.out _ _)
                have hP38 : Hid (y38.heap[y0.heap.size]? = some (.cells #[.int .i64 (pu : Int), .int .i64 pb] 35 (0, 0))) := by rw [← hy, Below.heap_setCell _ _ _ _ (by show y0.heap.size ≠ y30.heap.size; omega), Below.heap_setCell _ _ _ _ (by show y0.heap.size ≠ y30.heap.size; omega)]; exact hP37
                rw [hy]
                clear hy
                refine wpAnyH_done (by kernel_rfl) ?_ _
                refine NoPanic.normal ?_
                go_wp2_with fail
                go_meet
                case rel => exact ⟨_, _, pu, pb, qu, qb, rfl, rfl, hdk38.out, hpu, hpc, hqu, hqc, hP38.out, hQ38.out⟩
            · skip
              go_simp
              refine hK.out _ _ (hdk29.out.below (balloc _ _)) (fun hHeld => ?_)
              clear hK K hHeld
              try simp only [Act.put, List.setIfInBounds_toArray, List.set_cons_zero, List.set_cons_succ]
              obtain ⟨y39, hy⟩ : ∃ y, y29.alloc (.cells #[.int .i64 0, .int .i64 0] 35) = y := ⟨_, rfl⟩
              have hdk39 : Hid (BK wx w.heap.size w2.heap.size ad V cap ⟨qk, qe, qa0, qa1, qb0, qb1⟩ y39) := by rw [← hy]; exact hid (hdk29.out.below (balloc _ _))
              have hQ39 : Hid (y39.heap[y29.heap.size]? = some zp) := by rw [← hy]; exact hid (heap_alloc_new _ _)
              have hlQ : wx.heap.size ≤ y29.heap.size := hdk29.out.1.size
              have hP39 : Hid (y39.heap[y0.heap.size]? = some zp) := by rw [← hy]; exact hid (al_keep hP29.out)
              have hPQ : y0.heap.size ≠ y29.heap.size := by have := (Array.getElem?_eq_some_iff.1 hP29.out).1; omega
              rw [hy]
              clear hy
              refine wpAnyH_ready (rs := [3]) (by kernel_rfl) (by simp) ?_
              refine (AllReadyH.cons (o := { dst := some 102, op := Op.call { callee := Callee.value (Operand.func 25), args := #[Operand.tmp 99, Operand.tmp 101, Operand.const (Value.bool false)], argTypes := #[31, 35, 4] }, type := 35, pos := "law.go:189", after := #[{ on := 0, ground := Ground.data }, { on := 2, ground := Ground.data }], guard := none }) rfl (fun K hK => ?_) AllReadyH.nil)
              go_simp
              refine (hcor.out _ _ y39 hdk39.out.1).mono ?_
              rintro x y40 ⟨pu, pb, rfl, hpu, hpc, b2⟩
              replace hpc := hid hpc
              have hdk40 := hid (hdk39.out.below b2)
              have hP40 := hid ((b2.block _ (Array.getElem?_eq_some_iff.1 hP39.out).1).trans hP39.out)
              have hQ40 := hid ((b2.block _ (Array.getElem?_eq_some_iff.1 hQ39.out).1).trans hQ39.out)
              clear b2
              try go_wp2_with fail
              refine hK.out _ _ hdk40.out (fun hHeld => ?_)
              clear hK K hHeld
              try simp only [Act.put, List.setIfInBounds_toArray, List.set_cons_zero, List.set_cons_succ]
              refine wpAnyH_ready (rs := [7]) (by kernel_rfl) (by simp) ?_
              refine (AllReadyH.cons (o := { dst := some 106, op := Op.call { callee := Callee.value (Operand.func 25), args := #[Operand.tmp 103, Operand.tmp 105, Operand.const (Value.bool false)], argTypes := #[31, 35, 4] }, type := 35, pos := "law.go:189", after := #[{ on := 4, ground := Ground.data }, { on := 6, ground := Ground.data }, { on := 3, ground := Ground.chain }], guard := none }) rfl (fun K hK => ?_) AllReadyH.nil)
              go_simp
              refine (hcor.out _ _ y40 hdk40.out.1).mono ?_
              rintro x y41 ⟨qu, qb, rfl, hqu, hqc, b2⟩
              replace hqc := hid hqc
              have hdk41 := hid (hdk40.out.below b2)
              have hP41 := hid ((b2.block _ (Array.getElem?_eq_some_iff.1 hP40.out).1).trans hP40.out)
              have hQ41 := hid ((b2.block _ (Array.getElem?_eq_some_iff.1 hQ40.out).1).trans hQ40.out)
              clear b2
              try go_wp2_with fail
              refine hK.out _ _ hdk41.out (fun hHeld => ?_)
              clear hK K hHeld
              try simp only [Act.put, List.setIfInBounds_toArray, List.set_cons_zero, List.set_cons_succ]
              refine wpAnyH_ready (rs := [10]) (by kernel_rfl) (by simp) ?_
              refine (AllReadyH.cons (o := { dst := none, op := Op.store 35 (Operand.tmp 16) (Operand.tmp 102), type := 0, pos := "law.go:189", after := #[{ on := 8, ground := Ground.data }, { on := 3, ground := Ground.data }, { on := 7, ground := Ground.chain }, { on := 0, ground := Ground.phase }, { on := 1, ground := Ground.phase }, { on := 2, ground := Ground.phase }, { on := 3, ground := Ground.phase }, { on := 4, ground := Ground.textOnly Departure.lateStores }, { on := 5, ground := Ground.textOnly Departure.lateStores }, { on := 6, ground := Ground.textOnly Departure.lateStores }, { on := 7, ground := Ground.textOnly Departure.lateStoresUnsure }, { on := 8, ground := Ground.phase }, { on := 9, ground := Ground.phase }], guard := none }) rfl (fun K hK => ?_) AllReadyH.nil)
              obtain ⟨z1, z2, z3, z4⟩ := blk2 hP41.out
              go_simp
              try go_wp2_with fail
              refine hK.out _ _ (hdk41.out.set2 hlP _ _) (fun hHeld => ?_)
              clear hK K hHeld z1 z2 z3 z4
              try simp only [Act.put, List.setIfInBounds_toArray, List.set_cons_zero, List.set_cons_succ]
              obtain ⟨y42, hy⟩ : ∃ y, (y41.setCell ⟨y0.heap.size, 0, none⟩ (.int .i64 (pu : Int))).setCell ⟨y0.heap.size, 1, none⟩ (.int .i64 pb) = y := ⟨_, rfl⟩
              have hdk42 : Hid (BK wx w.heap.size w2.heap.size ad V cap ⟨qk, qe, qa0, qa1, qb0, qb1⟩ y42) := by rw [← hy]; exact hid (hdk41.out.set2 hlP _ _)
              have hP42 : Hid (y42.heap[y0.heap.size]? = some (.cells #[.int .i64 (pu : Int), .int .i64 pb] 35 (0, 0))) := by rw [← hy]; exact hid (set2_block hP41.out _ _)
              have hQ42 : Hid (y42.heap[y29.heap.size]? = some zp) := by rw [← hy, Below.heap_setCell _ _ _ _ (by show y29.heap.size ≠ y0.heap.size; omega), Below.heap_setCell _ _ _ _ (by show y29.heap.size ≠ y0.heap.size; omega)]; exact hQ41
              rw [hy]
              clear hy
              refine wpAnyH_ready (rs := [11]) (by kernel_rfl) (by simp) ?_
              refine (AllReadyH.cons (o := { dst := none, op := Op.store 35 (Operand.tmp 17) (Operand.tmp 106), type := 0, pos := "law.go:189", after := #[{ on := 9, ground := Ground.data }, { on := 7, ground := Ground.data }, { on := 10, ground := Ground.chain }, { on := 0, ground := Ground.phase }, { on := 1, ground := Ground.phase }, { on := 2, ground := Ground.phase }, { on := 3, ground := Ground.phase }, { on := 4, ground := Ground.phase }, { on := 5, ground := Ground.phase }, { on := 6, ground := Ground.phase }, { on := 7, ground := Ground.phase }, { on := 8, ground := Ground.phase }, { on := 9, ground := Ground.phase }, { on := 10, ground := Ground.phase }], guard := none }) rfl (fun K hK => ?_) AllReadyH.nil)
              obtain ⟨z1, z2, z3, z4⟩ := blk2 hQ42.out
              go_simp
              try go_wp2_with fail
              refine hK.out _ _ (hdk42.out.set2 hlQ _ _) (fun hHeld => ?_)
              clear hK K hHeld z1 z2 z3 z4
              try simp only [Act.put, List.setIfInBounds_toArray, List.set_cons_zero, List.set_cons_succ]
              obtain ⟨y43, hy⟩ : ∃ y, (y42.setCell ⟨y29.heap.size, 0, none⟩ (.int .i64 (qu : Int))).setCell ⟨y29.heap.size, 1, none⟩ (.int .i64 qb) = y := ⟨_, rfl⟩
              have hdk43 : Hid (BK wx w.heap.size w2.heap.size ad V cap ⟨qk, qe, qa0, qa1, qb0, qb1⟩ y43) := by rw [← hy]; exact hid (hdk42.out.set2 hlQ _ _)
              have hQ43 : Hid (y43.heap[y29.heap.size]? = some (.cells #[.int .i64 (qu : Int), .int .i64 qb] 35 (0, 0))) := by rw [← hy]; exact hid (set2_block hQ42.out _ _)
              have hP43 : Hid (y43.heap[y0.heap.size]? = some (.cells #[.int .i64 (pu : Int), .int .i64 pb] 35 (0, 0))) := by rw [← hy, Below.heap_setCell _ _ _ _ (by show y0.heap.size ≠ y29.heap.size; omega), Below.heap_setCell _ _ _ _ (by show y0.heap.size ≠ y29.heap.size; omega)]; exact hP42
              rw [hy]
              clear hy
              refine wpAnyH_done (by kernel_rfl) ?_ _
              refine NoPanic.normal ?_
              go_wp2_with fail
              go_meet
              case rel => exact ⟨_, _, pu, pb, qu, qb, rfl, rfl, hdk43.out, hpu, hpc, hqu, hqc, hP43.out, hQ43.out⟩
          · skip
            go_simp
            refine hK.out _ _ (hdk0.out.below (balloc _ _)) (fun hHeld => ?_)
            clear hK K hHeld
            try simp only [Act.put, List.setIfInBounds_toArray, List.set_cons_zero, List.set_cons_succ]
            obtain ⟨y44, hy⟩ : ∃ y, y0.alloc (.cells #[.int .i64 0, .int .i64 0] 35) = y := ⟨_, rfl⟩
            have hdk44 : Hid (BK wx w.heap.size w2.heap.size ad V cap ⟨qk, qe, qa0, qa1, qb0, qb1⟩ y44) := by rw [← hy]; exact hid (hdk0.out.below (balloc _ _))
            have hQ44 : Hid (y44.heap[y0.heap.size]? = some zp) := by rw [← hy]; exact hid (heap_alloc_new _ _)
            have hlQ : wx.heap.size ≤ y0.heap.size := hdk0.out.1.size
            rw [hy]
            clear hy
            refine wpAnyH_ready (rs := [3, 8]) (by kernel_rfl) (by simp) ?_
            refine (AllReadyH.cons (o := { dst := some 102, op := Op.call { callee := Callee.value (Operand.func 25), args := #[Operand.tmp 99, Operand.tmp 101, Operand.const (Value.bool false)], argTypes := #[31, 35, 4] }, type := 35, pos := "law.go:189", after := #[{ on := 0, ground := Ground.data }, { on := 2, ground := Ground.data }], guard := none }) rfl (fun K hK => ?_) (AllReadyH.cons (o := { dst := some 16, op := Op.alloc 35, type := 0, pos := "law.go:189", after := #[], guard := none }) rfl (fun K hK => ?_) AllReadyH.nil))
            · skip
              go_simp
              refine (hcor.out _ _ y44 hdk44.out.1).mono ?_
              rintro x y45 ⟨pu, pb, rfl, hpu, hpc, b2⟩
              replace hpc := hid hpc
              have hdk45 := hid (hdk44.out.below b2)
              have hQ45 := hid ((b2.block _ (Array.getElem?_eq_some_iff.1 hQ44.out).1).trans hQ44.out)
              clear b2
              try go_wp2_with fail
              refine hK.out _ _ hdk45.out (fun hHeld => ?_)
              clear hK K hHeld
              try simp only [Act.put, List.setIfInBounds_toArray, List.set_cons_zero, List.set_cons_succ]
              refine wpAnyH_ready (rs := [7, 8]) (by kernel_rfl) (by simp) ?_
              refine (AllReadyH.cons (o := { dst := some 106, op := Op.call { callee := Callee.value (Operand.func 25), args := #[Operand.tmp 103, Operand.tmp 105, Operand.const (Value.bool false)], argTypes := #[31, 35, 4] }, type := 35, pos := "law.go:189", after := #[{ on := 4, ground := Ground.data }, { on := 6, ground := Ground.data }, { on := 3, ground := Ground.chain }], guard := none }) rfl (fun K hK => ?_) (AllReadyH.cons (o := { dst := some 16, op := Op.alloc 35, type := 0, pos := "law.go:189", after := #[], guard := none }) rfl (fun K hK => ?_) AllReadyH.nil))
              · skip
                go_simp
                refine (hcor.out _ _ y45 hdk45.out.1).mono ?_
                rintro x y46 ⟨qu, qb, rfl, hqu, hqc, b2⟩
                replace hqc := hid hqc
                have hdk46 := hid (hdk45.out.below b2)
                have hQ46 := hid ((b2.block _ (Array.getElem?_eq_some_iff.1 hQ45.out).1).trans hQ45.out)
                clear b2
                try go_wp2_with fail
                refine hK.out _ _ hdk46.out (fun hHeld => ?_)
                clear hK K hHeld
                try simp only [Act.put, List.setIfInBounds_toArray, List.set_cons_zero, List.set_cons_succ]
                refine wpAnyH_ready (rs := [8]) (by kernel_rfl) (by simp) ?_
                refine (AllReadyH.cons (o := { dst := some 16, op := Op.alloc 35, type := 0, pos := "law.go:189", after := #[], guard := none }) rfl (fun K hK => ?_) AllReadyH.nil)
                go_simp
                refine hK.out _ _ (hdk46.out.below (balloc _ _)) (fun hHeld => ?_)
                clear hK K hHeld
                try simp only [Act.put, List.setIfInBounds_toArray, List.set_cons_zero, List.set_cons_succ]
                obtain ⟨y47, hy⟩ : ∃ y, y46.alloc (.cells #[.int .i64 0, .int .i64 0] 35) = y := ⟨_, rfl⟩
                have hdk47 : Hid (BK wx w.heap.size w2.heap.size ad V cap ⟨qk, qe, qa0, qa1, qb0, qb1⟩ y47) := by rw [← hy]; exact hid (hdk46.out.below (balloc _ _))
                have hP47 : Hid (y47.heap[y46.heap.size]? = some zp) := by rw [← hy]; exact hid (heap_alloc_new _ _)
                have hlP : wx.heap.size ≤ y46.heap.size := hdk46.out.1.size
                have hQ47 : Hid (y47.heap[y0.heap.size]? = some zp) := by rw [← hy]; exact hid (al_keep hQ46.out)
                have hPQ : y0.heap.size ≠ y46.heap.size := by have := (Array.getElem?_eq_some_iff.1 hQ46.out).1; omega
                rw [hy]
                clear hy
                refine wpAnyH_ready (rs := [10]) (by kernel_rfl) (by simp) ?_
                refine (AllReadyH.cons (o := { dst := none, op := Op.store 35 (Operand.tmp 16) (Operand.tmp 102), type := 0, pos := "law.go:189", after := #[{ on := 8, ground := Ground.data }, { on := 3, ground := Ground.data }, { on := 7, ground := Ground.chain }, { on := 0, ground := Ground.phase }, { on := 1, ground := Ground.phase }, { on := 2, ground := Ground.phase }, { on := 3, ground := Ground.phase }, { on := 4, ground := Ground.textOnly Departure.lateStores }, { on := 5, ground := Ground.textOnly Departure.lateStores }, { on := 6, ground := Ground.textOnly Departure.lateStores }, { on := 7, ground := Ground.textOnly Departure.lateStoresUnsure }, { on := 8, ground := Ground.phase }, { on := 9, ground := Ground.phase }], guard := none }) rfl (fun K hK => ?_) AllReadyH.nil)
                obtain ⟨z1, z2, z3, z4⟩ := blk2 hP47.out
                go_simp
                try go_wp2_with fail
                refine hK.out _ _ (hdk47.out.set2 hlP _ _) (fun hHeld => ?_)
                clear hK K hHeld z1 z2 z3 z4
                try simp only [Act.put, List.setIfInBounds_toArray, List.set_cons_zero, List.set_cons_succ]
                obtain ⟨y48, hy⟩ : ∃ y, (y47.setCell ⟨y46.heap.size, 0, none⟩ (.int .i64 (pu : Int))).setCell ⟨y46.heap.size, 1, none⟩ (.int .i64 pb) = y := ⟨_, rfl⟩
                have hdk48 : Hid (BK wx w.heap.size w2.heap.size ad V cap ⟨qk, qe, qa0, qa1, qb0, qb1⟩ y48) := by rw [← hy]; exact hid (hdk47.out.set2 hlP _ _)
                have hP48 : Hid (y48.heap[y46.heap.size]? = some (.cells #[.int .i64 (pu : Int), .int .i64 pb] 35 (0, 0))) := by rw [← hy]; exact hid (set2_block hP47.out _ _)
                have hQ48 : Hid (y48.heap[y0.heap.size]? = some zp) := by rw [← hy, Below.heap_setCell _ _ _ _ (by show y0.heap.size ≠ y46.heap.size; omega), Below.heap_setCell _ _ _ _ (by show y0.heap.size ≠ y46.heap.size; omega)]; exact hQ47
                rw [hy]
                clear hy
                refine wpAnyH_ready (rs := [11]) (by kernel_rfl) (by simp) ?_
                refine (AllReadyH.cons (o := { dst := none, op := Op.store 35 (Operand.tmp 17) (Operand.tmp 106), type := 0, pos := "law.go:189", after := #[{ on := 9, ground := Ground.data }, { on := 7, ground := Ground.data }, { on := 10, ground := Ground.chain }, { on := 0, ground := Ground.phase }, { on := 1, ground := Ground.phase }, { on := 2, ground := Ground.phase }, { on := 3, ground := Ground.phase }, { on := 4, ground := Ground.phase }, { on := 5, ground := Ground.phase }, { on := 6, ground := Ground.phase }, { on := 7, ground := Ground.phase }, { on := 8, ground := Ground.phase }, { on := 9, ground := Ground.phase }, { on := 10, ground := Ground.phase }], guard := none }) rfl (fun K hK => ?_) AllReadyH.nil)
                obtain ⟨z1, z2, z3, z4⟩ := blk2 hQ48.out
                go_simp
                try go_wp2_with fail
                refine hK.out _ _ (hdk48.out.set2 hlQ _ _) (fun hHeld => ?_)
                clear hK K hHeld z1 z2 z3 z4
                try simp only [Act.put, List.setIfInBounds_toArray, List.set_cons_zero, List.set_cons_succ]
                obtain ⟨y49, hy⟩ : ∃ y, (y48.setCell ⟨y0.heap.size, 0, none⟩ (.int .i64 (qu : Int))).setCell ⟨y0.heap.size, 1, none⟩ (.int .i64 qb) = y := ⟨_, rfl⟩
                have hdk49 : Hid (BK wx w.heap.size w2.heap.size ad V cap ⟨qk, qe, qa0, qa1, qb0, qb1⟩ y49) := by rw [← hy]; exact hid (hdk48.out.set2 hlQ _ _)
                have hQ49 : Hid (y49.heap[y0.heap.size]? = some (.cells #[.int .i64 (qu : Int), .int .i64 qb] 35 (0, 0))) := by rw [← hy]; exact hid (set2_block hQ48.out _ _)
                have hP49 : Hid (y49.heap[y46.heap.size]? = some (.cells #[.int .i64 (pu : Int), .int .i64 pb] 35 (0, 0))) := by rw [← hy, Below.heap_setCell _ _ _ _ (by show y46.heap.size ≠ y0.heap.size; omega), Below.heap_setCell _ _ _ _ (by show y46.heap.size ≠ y0.heap.size; omega)]; exact hP48
                rw [hy]
                clear hy
                refine wpAnyH_done (by kernel_rfl) ?_ _
                refine NoPanic.normal ?_
                go_wp2_with fail
                go_meet
                case rel => exact ⟨_, _, pu, pb, qu, qb, rfl, rfl, hdk49.out, hpu, hpc, hqu, hqc, hP49.out, hQ49.out⟩
              · skip
                go_simp
                refine hK.out _ _ (hdk45.out.below (balloc _ _)) (fun hHeld => ?_)
                clear hK K hHeld
                try simp only [Act.put, List.setIfInBounds_toArray, List.set_cons_zero, List.set_cons_succ]
                obtain ⟨y50, hy⟩ : ∃ y, y45.alloc (.cells #[.int .i64 0, .int .i64 0] 35) = y := ⟨_, rfl⟩
                have hdk50 : Hid (BK wx w.heap.size w2.heap.size ad V cap ⟨qk, qe, qa0, qa1, qb0, qb1⟩ y50) := by rw [← hy]; exact hid (hdk45.out.below (balloc _ _))
                have hP50 : Hid (y50.heap[y45.heap.size]? = some zp) := by rw [← hy]; exact hid (heap_alloc_new _ _)
                have hlP : wx.heap.size ≤ y45.heap.size := hdk45.out.1.size
                have hQ50 : Hid (y50.heap[y0.heap.size]? = some zp) := by rw [← hy]; exact hid (al_keep hQ45.out)
                have hPQ : y0.heap.size ≠ y45.heap.size := by have := (Array.getElem?_eq_some_iff.1 hQ45.out).1; omega
                rw [hy]
                clear hy
                refine wpAnyH_ready (rs := [7]) (by kernel_rfl) (by simp) ?_
                refine (AllReadyH.cons (o := { dst := some 106, op := Op.call { callee := Callee.value (Operand.func 25), args := #[Operand.tmp 103, Operand.tmp 105, Operand.const (Value.bool false)], argTypes := #[31, 35, 4] }, type := 35, pos := "law.go:189", after := #[{ on := 4, ground := Ground.data }, { on := 6, ground := Ground.data }, { on := 3, ground := Ground.chain }], guard := none }) rfl (fun K hK => ?_) AllReadyH.nil)
                go_simp
                refine (hcor.out _ _ y50 hdk50.out.1).mono ?_
                rintro x y51 ⟨qu, qb, rfl, hqu, hqc, b2⟩
                replace hqc := hid hqc
                have hdk51 := hid (hdk50.out.below b2)
                have hP51 := hid ((b2.block _ (Array.getElem?_eq_some_iff.1 hP50.out).1).trans hP50.out)
                have hQ51 := hid ((b2.block _ (Array.getElem?_eq_some_iff.1 hQ50.out).1).trans hQ50.out)
                clear b2
                try go_wp2_with fail
                refine hK.out _ _ hdk51.out (fun hHeld => ?_)
                clear hK K hHeld
                try simp only [Act.put, List.setIfInBounds_toArray, List.set_cons_zero, List.set_cons_succ]
                refine wpAnyH_ready (rs := [10]) (by kernel_rfl) (by simp) ?_
                refine (AllReadyH.cons (o := { dst := none, op := Op.store 35 (Operand.tmp 16) (Operand.tmp 102), type := 0, pos := "law.go:189", after := #[{ on := 8, ground := Ground.data }, { on := 3, ground := Ground.data }, { on := 7, ground := Ground.chain }, { on := 0, ground := Ground.phase }, { on := 1, ground := Ground.phase }, { on := 2, ground := Ground.phase }, { on := 3, ground := Ground.phase }, { on := 4, ground := Ground.textOnly Departure.lateStores }, { on := 5, ground := Ground.textOnly Departure.lateStores }, { on := 6, ground := Ground.textOnly Departure.lateStores }, { on := 7, ground := Ground.textOnly Departure.lateStoresUnsure }, { on := 8, ground := Ground.phase }, { on := 9, ground := Ground.phase }], guard := none }) rfl (fun K hK => ?_) AllReadyH.nil)
                obtain ⟨z1, z2, z3, z4⟩ := blk2 hP51.out
                go_simp
                try go_wp2_with fail
                refine hK.out _ _ (hdk51.out.set2 hlP _ _) (fun hHeld => ?_)
                clear hK K hHeld z1 z2 z3 z4
                try simp only [Act.put, List.setIfInBounds_toArray, List.set_cons_zero, List.set_cons_succ]
                obtain ⟨y52, hy⟩ : ∃ y, (y51.setCell ⟨y45.heap.size, 0, none⟩ (.int .i64 (pu : Int))).setCell ⟨y45.heap.size, 1, none⟩ (.int .i64 pb) = y := ⟨_, rfl⟩
                have hdk52 : Hid (BK wx w.heap.size w2.heap.size ad V cap ⟨qk, qe, qa0, qa1, qb0, qb1⟩ y52) := by rw [← hy]; exact hid (hdk51.out.set2 hlP _ _)
                have hP52 : Hid (y52.heap[y45.heap.size]? = some (.cells #[.int .i64 (pu : Int), .int .i64 pb] 35 (0, 0))) := by rw [← hy]; exact hid (set2_block hP51.out _ _)
                have hQ52 : Hid (y52.heap[y0.heap.size]? = some zp) := by rw [← hy, Below.heap_setCell _ _ _ _ (by show y0.heap.size ≠ y45.heap.size; omega), Below.heap_setCell _ _ _ _ (by show y0.heap.size ≠ y45.heap.size; omega)]; exact hQ51
                rw [hy]
                clear hy
                refine wpAnyH_ready (rs := [11]) (by kernel_rfl) (by simp) ?_
                refine (AllReadyH.cons (o := { dst := none, op := Op.store 35 (Operand.tmp 17) (Operand.tmp 106), type := 0, pos := "law.go:189", after := #[{ on := 9, ground := Ground.data }, { on := 7, ground := Ground.data }, { on := 10, ground := Ground.chain }, { on := 0, ground := Ground.phase }, { on := 1, ground := Ground.phase }, { on := 2, ground := Ground.phase }, { on := 3, ground := Ground.phase }, { on := 4, ground := Ground.phase }, { on := 5, ground := Ground.phase }, { on := 6, ground := Ground.phase }, { on := 7, ground := Ground.phase }, { on := 8, ground := Ground.phase }, { on := 9, ground := Ground.phase }, { on := 10, ground := Ground.phase }], guard := none }) rfl (fun K hK => ?_) AllReadyH.nil)
                obtain ⟨z1, z2, z3, z4⟩ := blk2 hQ52.out
                go_simp
                try go_wp2_with fail
                refine hK.out _ _ (hdk52.out.set2 hlQ _ _) (fun hHeld => ?_)
                clear hK K hHeld z1 z2 z3 z4
                try simp only [Act.put, List.setIfInBounds_toArray, List.set_cons_zero, List.set_cons_succ]
                obtain ⟨y53, hy⟩ : ∃ y, (y52.setCell ⟨y0.heap.size, 0, none⟩ (.int .i64 (qu : Int))).setCell ⟨y0.heap.size, 1, none⟩ (.int .i64 qb) = y := ⟨_, rfl⟩
                have hdk53 : Hid (BK wx w.heap.size w2.heap.size ad V cap ⟨qk, qe, qa0, qa1, qb0, qb1⟩ y53) := by rw [← hy]; exact hid (hdk52.out.set2 hlQ _ _)
                have hQ53 : Hid (y53.heap[y0.heap.size]? = some (.cells #[.int .i64 (qu : Int), .int .i64 qb] 35 (0, 0))) := by rw [← hy]; exact hid (set2_block hQ52.out _ _)
                have hP53 : Hid (y53.heap[y45.heap.size]? = some (.cells #[.int .i64 (pu : Int), .int .i64 pb] 35 (0, 0))) := by rw [← hy, Below.heap_setCell _ _ _ _ (by show y45.heap.size ≠ y0.heap.size; omega), Below.heap_setCell _ _ _ _ (by show y45.heap.size ≠ y0.heap.size; omega)]; exact hP52
                rw [hy]
                clear hy
                refine wpAnyH_done (by kernel_rfl) ?_ _
                refine NoPanic.normal ?_
                go_wp2_with fail
                go_meet
                case rel => exact ⟨_, _, pu, pb, qu, qb, rfl, rfl, hdk53.out, hpu, hpc, hqu, hqc, hP53.out, hQ53.out⟩
            · skip
              go_simp
              refine hK.out _ _ (hdk44.out.below (balloc _ _)) (fun hHeld => ?_)
              clear hK K hHeld
              try simp only [Act.put, List.setIfInBounds_toArray, List.set_cons_zero, List.set_cons_succ]
              obtain ⟨y54, hy⟩ : ∃ y, y44.alloc (.cells #[.int .i64 0, .int .i64 0] 35) = y := ⟨_, rfl⟩
              have hdk54 : Hid (BK wx w.heap.size w2.heap.size ad V cap ⟨qk, qe, qa0, qa1, qb0, qb1⟩ y54) := by rw [← hy]; exact hid (hdk44.out.below (balloc _ _))
              have hP54 : Hid (y54.heap[y44.heap.size]? = some zp) := by rw [← hy]; exact hid (heap_alloc_new _ _)
              have hlP : wx.heap.size ≤ y44.heap.size := hdk44.out.1.size
              have hQ54 : Hid (y54.heap[y0.heap.size]? = some zp) := by rw [← hy]; exact hid (al_keep hQ44.out)
              have hPQ : y0.heap.size ≠ y44.heap.size := by have := (Array.getElem?_eq_some_iff.1 hQ44.out).1; omega
              rw [hy]
              clear hy
              refine wpAnyH_ready (rs := [3]) (by kernel_rfl) (by simp) ?_
              refine (AllReadyH.cons (o := { dst := some 102, op := Op.call { callee := Callee.value (Operand.func 25), args := #[Operand.tmp 99, Operand.tmp 101, Operand.const (Value.bool false)], argTypes := #[31, 35, 4] }, type := 35, pos := "law.go:189", after := #[{ on := 0, ground := Ground.data }, { on := 2, ground := Ground.data }], guard := none }) rfl (fun K hK => ?_) AllReadyH.nil)
              go_simp
              refine (hcor.out _ _ y54 hdk54.out.1).mono ?_
              rintro x y55 ⟨pu, pb, rfl, hpu, hpc, b2⟩
              replace hpc := hid hpc
              have hdk55 := hid (hdk54.out.below b2)
              have hP55 := hid ((b2.block _ (Array.getElem?_eq_some_iff.1 hP54.out).1).trans hP54.out)
              have hQ55 := hid ((b2.block _ (Array.getElem?_eq_some_iff.1 hQ54.out).1).trans hQ54.out)
              clear b2
              try go_wp2_with fail
              refine hK.out _ _ hdk55.out (fun hHeld => ?_)
              clear hK K hHeld
              try simp only [Act.put, List.setIfInBounds_toArray, List.set_cons_zero, List.set_cons_succ]
              refine wpAnyH_ready (rs := [7]) (by kernel_rfl) (by simp) ?_
              refine (AllReadyH.cons (o := { dst := some 106, op := Op.call { callee := Callee.value (Operand.func 25), args := #[Operand.tmp 103, Operand.tmp 105, Operand.const (Value.bool false)], argTypes := #[31, 35, 4] }, type := 35, pos := "law.go:189", after := #[{ on := 4, ground := Ground.data }, { on := 6, ground := Ground.data }, { on := 3, ground := Ground.chain }], guard := none }) rfl (fun K hK => ?_) AllReadyH.nil)
              go_simp
              refine (hcor.out _ _ y55 hdk55.out.1).mono ?_
              rintro x y56 ⟨qu, qb, rfl, hqu, hqc, b2⟩
              replace hqc := hid hqc
              have hdk56 := hid (hdk55.out.below b2)
              have hP56 := hid ((b2.block _ (Array.getElem?_eq_some_iff.1 hP55.out).1).trans hP55.out)
              have hQ56 := hid ((b2.block _ (Array.getElem?_eq_some_iff.1 hQ55.out).1).trans hQ55.out)
              clear b2
              try go_wp2_with fail
              refine hK.out _ _ hdk56.out (fun hHeld => ?_)
              clear hK K hHeld
              try simp only [Act.put, List.setIfInBounds_toArray, List.set_cons_zero, List.set_cons_succ]
              refine wpAnyH_ready (rs := [10]) (by kernel_rfl) (by simp) ?_
              refine (AllReadyH.cons (o := { dst := none, op := Op.store 35 (Operand.tmp 16) (Operand.tmp 102), type := 0, pos := "law.go:189", after := #[{ on := 8, ground := Ground.data }, { on := 3, ground := Ground.data }, { on := 7, ground := Ground.chain }, { on := 0, ground := Ground.phase }, { on := 1, ground := Ground.phase }, { on := 2, ground := Ground.phase }, { on := 3, ground := Ground.phase }, { on := 4, ground := Ground.textOnly Departure.lateStores }, { on := 5, ground := Ground.textOnly Departure.lateStores }, { on := 6, ground := Ground.textOnly Departure.lateStores }, { on := 7, ground := Ground.textOnly Departure.lateStoresUnsure }, { on := 8, ground := Ground.phase }, { on := 9, ground := Ground.phase }], guard := none }) rfl (fun K hK => ?_) AllReadyH.nil)
              obtain ⟨z1, z2, z3, z4⟩ := blk2 hP56.out
              go_simp
              try go_wp2_with fail
              refine hK.out _ _ (hdk56.out.set2 hlP _ _) (fun hHeld => ?_)
              clear hK K hHeld z1 z2 z3 z4
              try simp only [Act.put, List.setIfInBounds_toArray, List.set_cons_zero, List.set_cons_succ]
              obtain ⟨y57, hy⟩ : ∃ y, (y56.setCell ⟨y44.heap.size, 0, none⟩ (.int .i64 (pu : Int))).setCell ⟨y44.heap.size, 1, none⟩ (.int .i64 pb) = y := ⟨_, rfl⟩
              have hdk57 : Hid (BK wx w.heap.size w2.heap.size ad V cap ⟨qk, qe, qa0, qa1, qb0, qb1⟩ y57) := by rw [← hy]; exact hid (hdk56.out.set2 hlP _ _)
              have hP57 : Hid (y57.heap[y44.heap.size]? = some (.cells #[.int .i64 (pu : Int), .int .i64 pb] 35 (0, 0))) := by rw [← hy]; exact hid (set2_block hP56.out _ _)
              have hQ57 : Hid (y57.heap[y0.heap.size]? = some zp) := by rw [← hy, Below.heap_setCell _ _ _ _ (by show y0.heap.size ≠ y44.heap.size; omega), Below.heap_setCell _ _ _ _ (by show y0.heap.size ≠ y44.heap.size; omega)]; exact hQ56
              rw [hy]
              clear hy
              refine wpAnyH_ready (rs := [11]) (by kernel_rfl) (by simp) ?_
              refine (AllReadyH.cons (o := { dst := none, op := Op.store 35 (Operand.tmp 17) (Operand.tmp 106), type := 0, pos := "law.go:189", after := #[{ on := 9, ground := Ground.data }, { on := 7, ground := Ground.data }, { on := 10, ground := Ground.chain }, { on := 0, ground := Ground.phase }, { on := 1, ground := Ground.phase }, { on := 2, ground := Ground.phase }, { on := 3, ground := Ground.phase }, { on := 4, ground := Ground.phase }, { on := 5, ground := Ground.phase }, { on := 6, ground := Ground.phase }, { on := 7, ground := Ground.phase }, { on := 8, ground := Ground.phase }, { on := 9, ground := Ground.phase }, { on := 10, ground := Ground.phase }], guard := none }) rfl (fun K hK => ?_) AllReadyH.nil)
              obtain ⟨z1, z2, z3, z4⟩ := blk2 hQ57.out
              go_simp
              try go_wp2_with fail
              refine hK.out _ _ (hdk57.out.set2 hlQ _ _) (fun hHeld => ?_)
              clear hK K hHeld z1 z2 z3 z4
              try simp only [Act.put, List.setIfInBounds_toArray, List.set_cons_zero, List.set_cons_succ]
              obtain ⟨y58, hy⟩ : ∃ y, (y57.setCell ⟨y0.heap.size, 0, none⟩ (.int .i64 (qu : Int))).setCell ⟨y0.heap.size, 1, none⟩ (.int .i64 qb) = y := ⟨_, rfl⟩
              have hdk58 : Hid (BK wx w.heap.size w2.heap.size ad V cap ⟨qk, qe, qa0, qa1, qb0, qb1⟩ y58) := by rw [← hy]; exact hid (hdk57.out.set2 hlQ _ _)
              have hQ58 : Hid (y58.heap[y0.heap.size]? = some (.cells #[.int .i64 (qu : Int), .int .i64 qb] 35 (0, 0))) := by rw [← hy]; exact hid (set2_block hQ57.out _ _)
              have hP58 : Hid (y58.heap[y44.heap.size]? = some (.cells #[.int .i64 (pu : Int), .int .i64 pb] 35 (0, 0))) := by rw [← hy, Below.heap_setCell _ _ _ _ (by show y44.heap.size ≠ y0.heap.size; omega), Below.heap_setCell _ _ _ _ (by show y44.heap.size ≠ y0.heap.size; omega)]; exact hP57
              rw [hy]
              clear hy
              refine wpAnyH_done (by kernel_rfl) ?_ _
              refine NoPanic.normal ?_
              go_wp2_with fail
              go_meet
              case rel => exact ⟨_, _, pu, pb, qu, qb, rfl, rfl, hdk58.out, hpu, hpc, hqu, hqc, hP58.out, hQ58.out⟩
        case rest =>
          obtain ⟨P, Q, pu, pb, qu, qb, rfl, rfl, hc⟩ := hcut
          clear hcor hbk
          obtain ⟨hbk2, hpu, hpc, hqu, hqc, hP, hQ⟩ := hc.out
          have hpc' := hid hpc
          have hqc' := hid hqc
          have hi16 : ¬ In V R (2 * 8) := fun ⟨v', hv', hd'⟩ => by have := hnd.out.low v' _ hv' hd'; omega
          have hi17 : ¬ In V R (2 * 8 + 1) := fun ⟨v', hv', hd'⟩ => by have := hnd.out.low v' _ hv' hd'; omega
          have htw9 : Tw V 9 R := fun e he => by
            by_cases h8 : e < 8
            · exact htw.out e h8
            · obtain rfl : e = 8 := by omega
              exact ⟨fun q => absurd q hi16, fun q => absurd q hi17⟩
          obtain ⟨hn2, hw2', hin2⟩ := htx.out.tn.lay htw9 (show 8 < 9 by decide) hpu hqu hpc.mem hqc.mem hi16
          have hlift := hid (lay_lift htx.out.tn htw9 (show 8 < 9 by decide) hpu hqu hpc.mem hqc.mem hi16)
          have hsum := hid (lay_sum (e := 8) (V := V) hpu hqu hpc.mem hqc.mem)
          have hlay := hid (lay_ok (htx.out.more hbk2.1) 8 pu qu pb qb (by decide) hi16 hi17 hpc hqc)
          have hByy : Hid (Below w.heap.size w wc) := hbx.out.trans (hbk2.1.mono hbx.out.size)
          have hbfy := hid (hbf.out.al (.below hbk2.1))
          obtain ⟨R2, hR2⟩ : ∃ R2, layR R 8 pu qu (co pb) (co qb) = R2 := ⟨_, rfl⟩
          rw [hR2] at hn2 hw2' hin2 hlift hsum hlay
          have hI16 : Hid (In V R2 (2 * 8) ∧ In V R2 (2 * 8 + 1)) := ⟨(hin2 _).2 (.inr (.inl rfl)), (hin2 _).2 (.inl rfl)⟩
          replace hn2 := hid hn2
          clear hR2 hc hpc hqc hbk2 hi16 hi17 htw9 hw2' hin2 hbx htx hpc' hqc' hbf hB2
          obtain ⟨u0, u1, _, _⟩ := blk2 hP
          obtain ⟨z0, z1, _, _⟩ := blk2 hQ
          clear hP hQ
          go_wp2_with fail
          refine hlay.out.mono ?_
          rintro x w6 ⟨rfl, a6, k6⟩
          have hb6 : Hid (Below w.heap.size w w6) := hByy.out.trans (k6.below hByy.out.size)
          have hbf6 := hid (hbfy.out.al k6.al)
          have hha := hid (has_ok a6 8 true (by decide) ⟨fun _ => hI16.out.1, fun _ => rfl⟩)
          replace a6 := hid a6
          clear hlay k6 hByy hbfy u0 u1 z0 z1
          go_wp2_with fail
          refine hha.out.mono ?_
          rintro x w7 ⟨rfl, b7⟩
          have a7 := hid (a6.out.more b7)
          have hb7 : Hid (Below w.heap.size w w7) := hb6.out.trans (b7.mono hb6.out.size)
          have hbf7 := hid (hbf6.out.al (.below b7))
          clear hha b7 a6 hb6 hbf6
          go_wp2_with fail
          go_loopw [18, 19, 20, 21, 22, 23, 24, 25, 26, 27, 28] (fun s18 s19 _ _ _ _ _ _ _ _ _ wr => ∃ i s : Nat, i ≤ V ∧ s ≤ 18 ∧ s19 = .int .i64 (i : Int) ∧ s18 = .int .i64 (s : Int) ∧ Hid (s = sumL R2 i ∧ Below w7.heap.size w7 wr)) (fun _ s19 _ _ _ _ _ _ _ _ _ _ => V - (intOf s19).toNat)
          case atStart => exact ⟨0, 0, by omega, by omega, by go_num, by go_num, rfl, Below.refl _ _⟩
          case round =>
            obtain ⟨i, sm, hi, hs18, rfl, rfl, hst3⟩ := hrel
            rcases Nat.lt_or_ge i V with hilt | hige
            · have v1 : decide ((i : Int) < (V : Int)) = true := decide_eq_true (by omega)
              obtain ⟨k, hk⟩ : ∃ k, (R2 i).length = k := ⟨_, rfl⟩
              have hsk : Hid (sm + k = sumL R2 (i + 1)) := by rw [hst3.out.1, ← hk]; exact hid rfl
              have hsk18 : sm + k ≤ 18 := by rw [hsk.out]; exact sumL_le hn2.out (i + 1) (by omega)
              have hro := hid (round_ok (a7.out.more hst3.out.2) i hilt)
              rw [hk] at hro
              have hlf : Hid ((lf (R2 i)).length = k) := by rw [lf_length]; exact hid hk
              replace hk := hid hk
              go_wp2_with fail
              refine hro.out.mono ?_
              rintro x w8 ⟨rv, rfl, hrow, b8⟩
              have hnl : NL w8 rv (lf (R2 i)) := nl_of (by rw [hlf.out]; exact hrow)
              obtain ⟨ra, rn, rc, rfl, hrn, hrest⟩ := hnl
              obtain rfl : rn = k := by rw [← hrn]; exact hlf.out
              have hnl : Hid (NL w8 (.slice ra rn rc) (lf (R2 i))) := ⟨ra, rn, rc, rfl, hrn, hrest⟩
              have hb8 : Hid (Below w7.heap.size w7 w8) := hst3.out.2.trans (b8.mono hst3.out.2.size)
              clear hro hrow b8 hrest hrn hst3
              go_wp2_with fail
              go_loopw [22, 23, 24, 25, 26, 27, 28] (fun s22 _ _ _ _ _ _ wr => ∃ t : Nat, t ≤ rn ∧ s22 = .int .i64 (t : Int) ∧ Hid (Below w7.heap.size w7 wr ∧ NL wr (.slice ra rn rc) (lf (R2 i)))) (fun s22 _ _ _ _ _ _ _ => rn - (intOf s22).toNat)
              case atStart => exact ⟨0, by omega, by go_num, hb8.out, hnl.out⟩
              case round =>
                obtain ⟨t, ht, rfl, hst4⟩ := hrel
                clear hb8 hnl
                rcases Nat.lt_or_ge t rn with htl | htg
                · obtain ⟨y, hy⟩ : ∃ y, (lf (R2 i))[t]? = some y := ⟨_, List.getElem?_eq_getElem (by rw [hlf.out]; exact htl)⟩
                  have hndi := hn2.out.nd i hilt
                  have hym : y ∈ R2 i := rot_mem.1 (List.mem_of_getElem? hy)
                  have hyn : (lf (R2 i))[(t + 1) % rn]? = some (nx (R2 i) y) := by
                    have h1 := nx_at (rot_nd (x := least0 (R2 i)) hndi) hy
                    rw [show rot (R2 i) (least0 (R2 i)) = lf (R2 i) from rfl, hlf.out, nx_lf hndi hym] at h1
                    exact h1
                  obtain ⟨h3a, _, h3c⟩ := three_at (a7.out.more hst4.out.1) hilt hym
                  obtain ⟨_, h3b, _⟩ := three_at (a7.out.more hst4.out.1) hilt (nx_mem hym)
                  rw [pv_nx hndi hym] at h3b
                  have hql : (t + 1) % rn < rn := Nat.mod_lt _ (by omega)
                  have hmod : ((t : Int) + 1).tmod (rn : Int) = (((t + 1) % rn : Nat) : Int) := by
                    rw [Int.tmod_eq_emod_of_nonneg (by omega), show (t : Int) + 1 = ((t + 1 : Nat) : Int) from by omega, ← Int.natCast_emod]
                  generalize (t + 1) % rn = qx at hyn hql hmod
                  obtain ⟨zn, hzn⟩ : ∃ zn, nx (R2 i) y = zn := ⟨_, rfl⟩
                  rw [hzn] at hyn h3a h3b
                  have hcl : Hid (∀ z, Below wr.heap.size wr z → ∃ b o, ra = some ⟨b, o, none⟩ ∧ z.cell? ⟨b, o + t, none⟩ = some (.int .i64 (y : Int)) ∧ z.cell? ⟨b, o + qx, none⟩ = some (.int .i64 (zn : Int))) := fun z hz => by
                    obtain ⟨ra', rn', rc', e1, _, _, _, hcl⟩ := hst4.out.2.below hz
                    simp only [Value.slice.injEq] at e1
                    obtain ⟨rfl, rfl, rfl⟩ := e1
                    obtain ⟨b3, o3, e3, cy⟩ := hcl t y hy
                    obtain ⟨b4, o4, e4, cy2⟩ := hcl qx zn hyn
                    rw [e3] at e4
                    cases e4
                    exact ⟨b3, o3, e3, cy, cy2⟩
                  obtain ⟨b3, o3, rfl, cy, _⟩ := hcl.out wr (Below.refl _ _)
                  replace h3a := hid h3a
                  replace h3b := hid h3b
                  replace h3c := hid h3c
                  have hnl4 := hid hst4.out.2
                  have hb4 := hid hst4.out.1
                  have i1 : (0 : Int) ≤ (t : Int) := by omega
                  have i2 : (t : Int) < (rn : Int) := by omega
                  have i3 : (0 : Int) ≤ (qx : Int) := by omega
                  have i4 : (qx : Int) < (rn : Int) := by omega
                  have z1 : ¬ (rn = 0) := by omega
                  have z2 : ¬ ((rn : Int) = 0) := by omega
                  have v3 : decide ((t : Int) < (rn : Int)) = true := decide_eq_true (by omega)
                  clear hst4 hy hyn hym hndi hzn
                  go_wp2_with fail
                  refine (h3a.out wr (Below.refl _ _)).mono ?_
                  rintro x w9 ⟨rfl, b9⟩
                  replace b9 := hid b9
                  go_wp2_with fail
                  refine (h3b.out w9 b9.out).mono ?_
                  rintro x w10 ⟨rfl, bq⟩
                  have b10 : Hid (Below wr.heap.size wr w10) := b9.out.trans (bq.mono b9.out.size)
                  obtain ⟨b3', o3', e3, cy', _⟩ := hcl.out w10 b10.out
                  cases e3
                  clear bq b9 cy
                  go_wp2_with fail
                  refine (h3c.out w10 b10.out).mono ?_
                  rintro x w11 ⟨rfl, bq⟩
                  have b11 : Hid (Below wr.heap.size wr w11) := b10.out.trans (bq.mono b10.out.size)
                  obtain ⟨b3', o3', e3, cz, cz2⟩ := hcl.out w11 b11.out
                  cases e3
                  have hF := hid (And.intro (hb4.out.trans (b11.out.mono hb4.out.size)) (hnl4.out.below b11.out))
                  clear bq b10 cy' h3a h3b h3c hcl
                  go_wp2_with fail
                  go_roundw
                  case rel => exact ⟨t + 1, by omega, by go_num, hF.out⟩
                  case measure => simp [intOf]; omega
                · obtain rfl : t = rn := by omega
                  have v3 : decide ((t : Int) < (t : Int)) = false := decide_eq_false (by omega)
                  have hb9 := hid hst4.out.1
                  clear hst4
                  go_wp2_with fail
                  go_roundw
                  case rel => exact ⟨i + 1, sm + t, by omega, hsk18, by go_num, by go_num, hsk.out, hb9.out⟩
                  case measure => simp [intOf]; omega
            · obtain rfl : V = i := by omega
              have v1 : decide ((V : Int) < (V : Int)) = false := decide_eq_false (by omega)
              have hL8 : Hid (Tn V 9 R2) := hn2
              have hsmV : Hid (sm = sumL R2 V) := hst3.out.1
              have hlf8 := hid (lift_ok (a7.out.more hst3.out.2) 8 (by decide) hI16.out.1 hI16.out.2)
              have hbf8 := hid (hbf7.out.al (.below hst3.out.2))
              have hbr : Hid (Below w.heap.size w wr) := hb7.out.trans (hst3.out.2.mono hb7.out.size)
              clear hst3
              go_wp2_with fail
              refine hlf8.out.mono ?_
              rintro x w12 ⟨rfl, a12, k12⟩
              have hb12 : Hid (Below w.heap.size w w12) := hbr.out.trans (k12.below hbr.out.size)
              have hbf12 := hid (hbf8.out.al k12.al)
              have hno : ¬ In V (liftR R2 8) (2 * 8) := fun ⟨v', hv', hd'⟩ => by
                rw [hlift.out v' hv'] at hd'
                have := hnd.out.low v' _ hv' hd'
                omega
              have hha2 := hid (has_ok a12 8 false (by decide) ⟨fun q => (by cases q), fun q => absurd q hno⟩)
              replace a12 := hid a12
              clear hlf8 k12 hbr hbf8 hno
              go_wp2_with fail
              refine hha2.out.mono ?_
              rintro x w13 ⟨rfl, b13⟩
              have a13 := hid (a12.out.more b13)
              have hb13 : Hid (Below w.heap.size w w13) := hb12.out.trans (b13.mono hb12.out.size)
              have hbf13 := hid (hbf12.out.al (.below b13))
              clear hha2 b13 a12 hb12 hbf12 hbf7 hb7 a7
              have hsR : Hid (∀ i, i ≤ V → sumL R i ≤ 16) := fun i hi => sumL_le hnd.out i hi
              go_wp2_with fail
              go_loopw [18, 29, 30, 31] (fun s18 s29 _ _ wr => ∃ i s : Nat, i ≤ V ∧ s ≤ 18 ∧ s29 = .int .i64 (i : Int) ∧ s18 = .int .i64 (s : Int) ∧ Hid (s + sumL R i = sumL R2 V ∧ Below w13.heap.size w13 wr)) (fun _ s29 _ _ _ => V - (intOf s29).toNat)
              case atStart => exact ⟨0, sm, by omega, hs18, by go_num, rfl, by rw [hsmV.out]; rfl, Below.refl _ _⟩
              case round =>
                obtain ⟨i, sn, hi, hs18', rfl, rfl, hst5⟩ := hrel
                rcases Nat.lt_or_ge i V with hilt | hige
                · have v1 : decide ((i : Int) < (V : Int)) = true := decide_eq_true (by omega)
                  have hRi : liftR R2 8 i = R i := hlift.out i hilt
                  obtain ⟨k, hk⟩ : ∃ k, (R i).length = k := ⟨_, rfl⟩
                  have hro := hid (round_ok (a13.out.more hst5.out.2) i hilt)
                  rw [hRi, hk] at hro
                  have hlf : Hid ((lf (R i)).length = k) := by rw [lf_length]; exact hid hk
                  have hkn : k ≤ sn ∧ sn - k + sumL R (i + 1) = sumL R2 V := by
                    have h1 := hst5.out.1
                    have h2 : sumL R (i + 1) = sumL R i + k := by rw [← hk]; rfl
                    have h3 := hsum.out
                    have h4 : ∀ a b, a ≤ b → sumL R a ≤ sumL R b := fun a b hab => by
                      induction hab with
                      | refl => exact Nat.le_refl _
                      | step _ ih => exact Nat.le_trans ih (Nat.le_add_right _ _)
                    have h5 := h4 (i + 1) V (by omega)
                    omega
                  replace hk := hid hk
                  clear hRi
                  go_wp2_with fail
                  refine hro.out.mono ?_
                  rintro x w14 ⟨rv, rfl, hrow, b14⟩
                  have hnl : NL w14 rv (lf (R i)) := nl_of (by rw [hlf.out]; exact hrow)
                  obtain ⟨ra, rn, rc, rfl, hrn, hrest⟩ := hnl
                  obtain rfl : rn = k := by rw [← hrn]; exact hlf.out
                  have hnl : Hid (NL w14 (.slice ra rn rc) (lf (R i))) := ⟨ra, rn, rc, rfl, hrn, hrest⟩
                  have hb14 : Hid (Below w13.heap.size w13 w14) := hst5.out.2.trans (b14.mono hst5.out.2.size)
                  have hbf14 := hbf13.out.al (.below hb14.out)
                  obtain ⟨us1, us2, us3⟩ := hbf14
                  obtain ⟨uu, huu⟩ : ∃ uu, us[i]? = some uu := ⟨_, List.getElem?_eq_getElem (by omega)⟩
                  have cu := (us1.cellAt i (by omega)).trans huu
                  have hnu := us3 i uu huu
                  have hnu' := hid hnu
                  obtain ⟨ua, un, uc, rfl, _⟩ := hnu
                  have i1 : (0 : Int) ≤ (i : Int) := by omega
                  have i2 : (i : Int) < (V : Int) := by omega
                  have hst5' := hid hkn.2
                  have hkn1 := hkn.1
                  clear hro hrow b14 hrest hrn hst5 us1 us3 huu hkn
                  go_wp2_with fail
                  refine (ints_ok _ _ _ w14 hnl.out hnu'.out).mono ?_
                  rintro x w15 ⟨rfl, m15, rfl⟩
                  have hb15 := hid (belowN hb14.out m15)
                  clear hnl hnu' hb14 cu
                  generalize w14.drewN m15 = w15 at hb15 ⊢
                  go_wp2_with fail
                  go_roundw
                  case rel => exact ⟨i + 1, sn - rn, by omega, by omega, by go_num, by first | (congr 1; omega) | go_num, hst5'.out, hb15.out⟩
                  case measure => simp [intOf]; omega
                · obtain rfl : V = i := by omega
                  have v1 : decide ((V : Int) < (V : Int)) = false := decide_eq_false (by omega)
                  obtain rfl : sn = 2 := by have h1 := hst5.out.1; have h2 := hsum.out; omega
                  have hbr2 : Hid (Below w.heap.size w wr) := hb13.out.trans (hst5.out.2.mono hb13.out.size)
                  have hsu := hid (sure_ok wr)
                  clear hst5
                  go_wp2_with fail
                  refine hsu.out.mono ?_
                  rintro x w16 ⟨rfl, b16⟩
                  have hb16 := hid (hbr2.out.trans (b16.mono hbr2.out.size))
                  clear b16
                  go_wp2_with fail
                  go_ret
                  exact ⟨by first | rfl | simp, hb16.out⟩

end Go.Proofs.YtdlggnibgnflnaaDoor
