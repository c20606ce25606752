/- 'KinRoads', walked. -/
import Derived.Test.YtghpjljnbdjmaaaGreatDoorBknear
import Derived.Test.YtghpjljnbdjmaaaGreatDoorBksure
import Derived.Test.YtghpjljnbdjmaaaGreatDoorLaws11
import Derived.Test.YtghpjljnbdjmaaaGreatDoorMade11
import Derived.Deep.CutBlock
namespace Go.Proofs.YtghpjljnbdjmaaaGreatDoor
open Go.RowKit
set_option linter.unusedVariables false

open Pq (fl fl_length fl_succ fl_get fl_congr)

/-- It is less far than there are vertices. -/
theorem Dn.lt {V E : Nat} {R : Nat → List Nat} {e : Int} (h : Tn V E R) (t : Tw V E R) {o : Nat} (ho : o < V) : ∀ {n x : Nat}, Dn V R e o x n → n < V := fun {n x} d => by
  have main : ∀ (n x : Nat), Dn V R e o x n → ∃ l : List Nat, l.length = n + 1 ∧ l.Nodup ∧ (∀ y, y ∈ l → y < V ∧ ∃ k, k ≤ n ∧ Dn V R e o y k) := fun n => by
    induction n with
    | zero => exact fun x d => ⟨[x], rfl, by simp, fun y hy => by
        obtain rfl : y = x := by simpa using hy
        exact ⟨d.1.lt h t ho, 0, Nat.le_refl _, d⟩⟩
    | succ n ih =>
      intro x d
      obtain ⟨z, g, hz, dz⟩ := d.back h t
      obtain ⟨l, h1, h2, h3⟩ := ih _ dz
      refine ⟨x :: l, by rw [List.length_cons, h1], List.nodup_cons.2 ⟨fun q => ?_, h2⟩, fun y hy => ?_⟩
      · obtain ⟨_, k, hk, dk⟩ := h3 x q
        have := d.uniq dk
        omega
      · rcases List.mem_cons.1 hy with rfl | q
        · exact ⟨d.1.lt h t ho, n + 1, Nat.le_refl _, d⟩
        · obtain ⟨q1, k, hk, dk⟩ := h3 y q
          exact ⟨q1, k, by omega, dk⟩
  obtain ⟨l, h1, h2, h3⟩ := main n x d
  have := pig l (List.range V) h2 (fun y hy => List.mem_range.2 (h3 y hy).1)
  rw [h1, List.length_range] at this
  omega

/-- A road of three. -/
theorem road_three {V E : Nat} {R : Nat → List Nat} (h : Tn V E R) (t : Tw V E R) {a b c m p q : Nat} (d1 : Dn V R (-1) b a m) (d2 : Dn V R (-1) c a p) (d3 : Dn V R (-1) b c q) : m ≤ p + q := by
  have := d1.2 _ (d3.1.trans d2.1)
  omega

set_option maxRecDepth 100000 in
set_option maxHeartbeats 8000000 in
theorem roads_law (n : Int) (v : Value) (l : List Ac) (o0 o1 o2 : Int) (w : World) (hg : Handle w) (hv : AV w v l) :
    Calls Tryz.prog 6 #[.int .i64 n, v, .agg #[.int .i64 o0, .int .i64 o1, .int .i64 o2]] w fun x w' => x = .returned (.bool true) ∧ Below w.heap.size w w' := by
  have hbb := balloc w (.cells #[.int .i64 o0, .int .i64 o1, .int .i64 o2] 64)
  have hpb := heap_alloc_new w (.cells #[.int .i64 o0, .int .i64 o1, .int .i64 o2] 64)
  have hpl : w.heap.size < (w.alloc (.cells #[.int .i64 o0, .int .i64 o1, .int .i64 o2] 64)).heap.size := by simp
  have hm := made_ok n v l (w.alloc (.cells #[.int .i64 o0, .int .i64 o1, .int .i64 o2] 64)) (hg.below hbb) (hv.below hbb)
  have hsu := hid (fun y => sure_ok15 y)
  obtain ⟨w0, hw0⟩ : ∃ w0, w.alloc (.cells #[.int .i64 o0, .int .i64 o1, .int .i64 o2] 64) = w0 := ⟨_, rfl⟩
  rw [hw0] at hbb hpb hm hpl
  replace hbb := hid hbb
  replace hpb := hid hpb
  replace hm := hid hm
  replace hw0 := hid hw0
  clear hg hv
  go_enter Tryz.func6, Tryz.ntmps6
  go_upto_region 1 with fail
  rw [hw0.out]
  clear hw0
  go_wp2_with fail
  refine hm.out.mono ?_
  rintro x w1 ⟨tb, V, R, ad, cap, rfl, hV1, hV6, hbo, b1⟩
  have hpb1 := (b1.block _ hpl).trans hpb.out
  have hpb2 := al_keep (o' := .cells #[.int .i64 8, .slice ad V cap] 27) hpb1
  have hls := hid (Md.ls hbo b1)
  clear hbo b1 hm hpb hpb1
  obtain ⟨w2, hw2⟩ : ∃ w2, w1.alloc (.cells #[.int .i64 8, .slice ad V cap] 27) = w2 := ⟨_, rfl⟩
  rw [hw2] at hls hpb2
  replace hw2 := hid hw2
  have htn := hid hls.out.tn
  have htw := hid hls.out.tw
  have hta := hid hls.out.ta
  have hbw : Hid (Below w.heap.size w w2) := hid (hbb.out.trans (hls.out.bel.mono hbb.out.size))
  obtain ⟨ad', cap', hrt, c0, c1⟩ := hls.out.rt
  have p0 : w2.cell? ⟨w.heap.size, 0, none⟩ = some (.int .i64 o0) := by simp [World.cell?, hpb2]
  have p1 : w2.cell? ⟨w.heap.size, 1, none⟩ = some (.int .i64 o1) := by simp [World.cell?, hpb2]
  have p2 : w2.cell? ⟨w.heap.size, 2, none⟩ = some (.int .i64 o2) := by simp [World.cell?, hpb2]
  obtain ⟨a, ha1, haV, ha2⟩ := mod_inN o0 V hV1 (by omega)
  obtain ⟨b, hb1, hbV, hb2⟩ := mod_inN o1 V hV1 (by omega)
  obtain ⟨c, hc1, hcV, hc2⟩ := mod_inN o2 V hV1 (by omega)
  have hun : IntKind.u64.wrap (V : Int) = (V : Int) := by rw [IntKind.wrap_u64]; omega
  have z1 : ¬ (V = 0) := by omega
  have z2 : ¬ ((V : Int) = 0) := by omega
  clear hrt hls hpb2
  go_upto_region 2 with fail
  try rw [hw2.out]
  clear hw2
  go_wp2_with fail
  go_region
  have b3 := hid ((Below.refl w2.heap.size w2).drew)
  generalize w2.drew = w3 at b3 ⊢
  clear c0 c1 p0 p1 p2 ha1 ha2 hb1 hb2 hc1 hc2 hun z1 z2
  have hkl : Hid (∀ x y : Nat, Kn V R (-1) x y ↔ lb V 8 R x = lb V 8 R y) := hid fun x y => kn_lb htn.out htw.out
  have hgr := hid (fun y (hy : Below w2.heap.size w2 y) => kgroups_ok (hta.out.more hy) htw.out)
  have hrd := hid (fun (p q : Nat) (hp : p < V) (hq : q < V) y (hy : Below w2.heap.size w2 y) => kroad_main (hta.out.more hy) htw.out p q hp hq)
  have hor := hid (fun (k : Nat) (hk : In V R k) y (hy : Below w2.heap.size w2 y) => origin_in (hta.out.more hy) k hk)
  have hrw : Hid (∀ (p q : Nat), p < V → q < V → ∀ y, Below w2.heap.size w2 y → Calls Tryz.prog 11 #[.pointer (some ⟨tb, 0, none⟩), .int .i64 (p : Int), .int .i64 (q : Int)] y fun r w' => ∃ u e, r = .returned (.tuple #[u, e]) ∧ Below y.heap.size y w') := hid (fun p q hp hq y hy => (hrd.out p q hp hq y hy).mono (by
    rintro r w' ⟨hb, ⟨_, rfl⟩ | ⟨u, l, n, rfl, _⟩⟩
    · exact ⟨_, _, rfl, hb⟩
    · exact ⟨_, _, rfl, hb⟩))
  go_wp2_with fail
  refine (hgr.out w3 b3.out).mono ?_
  rintro x w4 ⟨gv, rfl, hgl, b4⟩
  obtain ⟨gg, gc, rfl, _, _⟩ := own_form hgl (by rw [fl_length]; omega)
  rw [fl_length]
  have hgc : Hid (∀ x, x < V → ∀ y, Below w4.heap.size w4 y → y.cell? ⟨gg, x, none⟩ = some (.int .i64 (lb V 8 R x : Int))) := hid (fun x hx y hy => by
    have := World.ownsRow.cellAt (hgl.more hy) x (by rw [fl_length]; omega)
    rw [this]
    exact ncs_get hx)
  have b5 := hid (below_thru b3.out b4)
  clear hgl b4 hgr b3
  go_wp2_with fail
  refine (hrd.out a b haV hbV w4 b5.out).mono ?_
  rintro x w5 ⟨b6, hres⟩
  have ga := hgc.out a haV w5 b6
  have gb := hgc.out b hbV w5 b6
  have b7 := hid (below_thru b5.out b6)
  have v1 : ((V : Int) != (V : Int)) = false := by simp
  have i1 : (0 : Int) ≤ (a : Int) := by omega
  have i2 : (a : Int) < (V : Int) := by omega
  have i3 : (0 : Int) ≤ (b : Int) := by omega
  have i4 : (b : Int) < (V : Int) := by omega
  replace hres := hid hres
  clear b6 b5 hgc
  obtain ⟨La, hLa⟩ : ∃ x, lb V 8 R a = x := ⟨_, rfl⟩
  obtain ⟨Lb, hLb⟩ : ∃ x, lb V 8 R b = x := ⟨_, rfl⟩
  rw [hLa] at ga
  rw [hLb] at gb
  rcases hres.out with ⟨hno, rfl⟩ | ⟨u, r, m, rfl, hr, hdn, hroad⟩
  · have hne : La ≠ Lb := fun q => hno ((hkl.out b a).2 (by rw [hLa, hLb, q]))
    have t1 : ((La : Int) == (Lb : Int)) = false := by simp; omega
    clear hres hno hne hLa hLb hkl
    go_wp2_with fail
    go_quiet (fail)
    have b8 := hid (below_thru b7.out (belowN (Below.refl w5.heap.size w5) nq))
    generalize w5.drewN nq = w6 at b8 ⊢
    clear ga gb b7 t1 v1
    go_wp2_with fail
    go_loopw [17, 18, 19, 20, 21, 22] (fun _ u _ _ _ _ wr => u = .int .i64 0 ∧ wr = w6) (fun _ _ _ _ _ _ _ => 0)
    case atStart => exact ⟨by go_num, rfl⟩
    case round =>
      obtain ⟨rfl, rfl⟩ := hrel
      go_wp2_with fail
      refine (hrw.out a c haV hcV _ b8.out).mono ?_
      rintro x w7 ⟨u7, e7, rfl, b9⟩
      replace b9 := hid (below_thru b8.out b9)
      go_wp2_with fail
      refine (hrw.out c b hcV hbV _ b9.out).mono ?_
      rintro x w8 ⟨u8, e8, rfl, b10⟩
      replace b10 := hid (below_thru b9.out b10)
      go_wp2_with fail
      refine (hsu.out _).mono ?_
      rintro x w9 ⟨rfl, b11⟩
      have fin := hid (hbw.out.trans ((below_thru b10.out b11).mono hbw.out.size))
      clear b11
      go_wp2_with fail
      go_ret
      exact ⟨rfl, fin.out⟩
  · have hee : La = Lb := by have := (hkl.out b a).1 ⟨m, hdn.1⟩; omega
    have t1 : ((La : Int) == (Lb : Int)) = true := by simp [hee]
    have hm6 : m < V := hdn.lt htn.out htw.out hbV
    have hlr := hid hroad.len
    obtain ⟨ar, cr, rfl⟩ : ∃ ar cr, u = .slice ar m cr := by
      obtain ⟨x1, x2, h1, _⟩ := own_any hr
      exact ⟨x1, x2, by rw [h1, hroad.len]⟩
    have hrn := hid hr
    replace hroad := hid hroad
    replace hdn := hid hdn
    clear hres hLa hLb hr hee
    go_wp2_with fail
    go_quiet (fail)
    have b8 := hid (below_thru b7.out (belowN (Below.refl w5.heap.size w5) nq))
    have hr6 := hid (hrn.out.more (belowN (Below.refl w5.heap.size w5) nq))
    generalize w5.drewN nq = w6 at b8 hr6 ⊢
    clear ga gb b7 t1 v1 hrn
    have hst0 : Hid (Rd V R b (m - 0) a (r.drop 0) ∧ a < V ∧ Rw w4.heap.size w6 (.slice ar m cr) r ∧ Below w2.heap.size w2 w6) := hid ⟨hroad.out, haV, hr6.out, b8.out⟩
    clear b8 hr6
    go_wp2_with fail
    go_loopw [17, 18, 19, 20, 21, 22] (fun av u _ _ _ _ wr => ∃ (i at_ : Nat), i ≤ m ∧ u = .int .i64 (i : Int) ∧ av = .int .i64 (at_ : Int) ∧ Hid (Rd V R b (m - i) at_ (r.drop i) ∧ at_ < V ∧ Rw w4.heap.size wr (.slice ar m cr) r ∧ Below w2.heap.size w2 wr)) (fun _ u _ _ _ _ _ => m - (intOf u).toNat)
    case atStart => exact ⟨0, a, by omega, by go_num, rfl, hst0⟩
    case round =>
      obtain ⟨i, at_, hi, rfl, rfl, hst⟩ := hrel
      clear hst0
      obtain ⟨h1, h2, h3, h4⟩ := hst.out
      rcases Nat.lt_or_ge i m with hlt | hge
      · obtain ⟨d, hd⟩ : ∃ d, r[i]? = some d := ⟨_, List.getElem?_eq_getElem (by rw [hlr.out]; exact hlt)⟩
        have hdr : r.drop i = d :: r.drop (i + 1) := by
          obtain ⟨q1, q2⟩ := List.getElem?_eq_some_iff.1 hd
          rw [List.drop_eq_getElem_cons q1, q2]
        rw [show m - i = (m - (i + 1)) + 1 by omega, hdr] at h1
        obtain ⟨d', l', q1, q2, q3⟩ := h1
        injection q1 with e1 e2
        subst e1
        rw [← e2] at q3
        have hin : In V R d := ⟨at_, h2, q2.1⟩
        have hoa : og V R d = at_ := og_at htn.out h2 q2.1
        have hti := hin.tw htn.out htw.out
        have hyV := (og_is hti).1
        have hdl := hin.low htn.out
        obtain ⟨g5, q5, c5, e5, _, _, _, hI⟩ := h3.nl
        obtain ⟨rfl, rfl, rfl⟩ : ar = g5 ∧ m = q5 ∧ cr = c5 := by simpa using e5
        obtain ⟨b6, o6, rfl, c6⟩ := hI i _ hd
        have k1 := hid (hor.out d hin wr h4)
        have k2 := hid (fun y hy => hor.out (tw d) hti y hy)
        rw [hoa] at k1
        obtain ⟨y, hy⟩ : ∃ y, og V R (tw d) = y := ⟨_, rfl⟩
        rw [hy] at k2 hyV q3
        have hbit := bits_nat d (by omega)
        have hc6 := hid (fun z (hz : Below wr.heap.size wr z) => (hz.cell (World.block_lt_of_cell? wr _ c6)).trans c6)
        have hnx := hid (fun z (hz : Below wr.heap.size wr z) => And.intro q3 (And.intro hyV (And.intro (h3.more hz) (below_thru h4 hz))))
        have hw4 := hid h4
        have j1 : (0 : Int) ≤ (i : Int) := by omega
        have j2 : (i : Int) < (m : Int) := by omega
        have v2 : ((at_ : Int) != (at_ : Int)) = false := by simp
        clear hst h2 h3 h4 hd hdr q2 q3 hin hoa hti hy e5 hI e2
        go_wp2_with fail
        refine k1.out.mono ?_
        rintro x w7 ⟨rfl, b7⟩
        have c7 := hc6.out w7 b7
        have k3 := hid (k2.out w7 (below_thru hw4.out b7))
        clear k1 k2 c6
        replace b7 := hid b7
        go_wp2_with fail
        refine k3.out.mono ?_
        rintro x w8 ⟨rfl, b8⟩
        have hnew := hid (hnx.out w8 (below_thru b7.out b8))
        clear k3 c7 b8 b7 hnx hc6 hw4
        go_wp2_with fail
        go_roundw
        case rel => exact ⟨i + 1, y, by omega, by go_num, rfl, hnew⟩
        case measure => simp [intOf]; omega
      · obtain rfl : i = m := by omega
        rw [Nat.sub_self] at h1
        have hab : at_ = b := h1.1
        have v2 : ((at_ : Int) != (b : Int)) = false := by simp [hab]
        have hb9 := hid h4
        clear hst h1 h2 h3 h4 hab
        go_wp2_with fail
        refine (hrd.out a c haV hcV _ hb9.out).mono ?_
        rintro x w7 ⟨b10, hres2⟩
        replace b10 := hid (below_thru hb9.out b10)
        rcases hres2 with ⟨_, rfl⟩ | ⟨u2, r2, m2, rfl, hr2, hdn2, hroad2⟩
        · go_wp2_with fail
          refine (hrw.out c b hcV hbV _ b10.out).mono ?_
          rintro x w8 ⟨u8, e8, rfl, b11⟩
          replace b11 := hid (below_thru b10.out b11)
          go_wp2_with fail
          refine (hsu.out _).mono ?_
          rintro x w9 ⟨rfl, b12⟩
          have fin := hid (hbw.out.trans ((below_thru b11.out b12).mono hbw.out.size))
          clear b12
          go_wp2_with fail
          go_ret
          exact ⟨rfl, fin.out⟩
        · have hm2 := hdn2.lt htn.out htw.out hcV
          obtain ⟨ar2, cr2, rfl⟩ : ∃ ar cr, u2 = .slice ar m2 cr := by
            obtain ⟨x1, x2, h1, _⟩ := own_any hr2
            exact ⟨x1, x2, by rw [h1, hroad2.len]⟩
          replace hdn2 := hid hdn2
          clear hr2 hroad2
          go_wp2_with fail
          refine (hrd.out c b hcV hbV _ b10.out).mono ?_
          rintro x w8 ⟨b11, hres3⟩
          replace b11 := hid (below_thru b10.out b11)
          rcases hres3 with ⟨_, rfl⟩ | ⟨u3, r3, m3, rfl, hr3, hdn3, hroad3⟩
          · go_wp2_with fail
            refine (hsu.out _).mono ?_
            rintro x w9 ⟨rfl, b12⟩
            have fin := hid (hbw.out.trans ((below_thru b11.out b12).mono hbw.out.size))
            clear b12
            go_wp2_with fail
            go_ret
            exact ⟨rfl, fin.out⟩
          · have hm3 := hdn3.lt htn.out htw.out hbV
            obtain ⟨ar3, cr3, rfl⟩ : ∃ ar cr, u3 = .slice ar m3 cr := by
              obtain ⟨x1, x2, h1, _⟩ := own_any hr3
              exact ⟨x1, x2, by rw [h1, hroad3.len]⟩
            have htri := road_three htn.out htw.out hdn.out hdn2.out hdn3
            have v3 : decide ((i : Int) > (m2 : Int) + (m3 : Int)) = false := decide_eq_false (by omega)
            have v4 : decide ((m2 : Int) + (m3 : Int) < (i : Int)) = false := decide_eq_false (by omega)
            have v5 : decide (m2 + m3 < i) = false := decide_eq_false (by omega)
            clear hr3 hroad3
            go_wp2_with fail
            refine (hsu.out _).mono ?_
            rintro x w9 ⟨rfl, b12⟩
            have fin := hid (hbw.out.trans ((below_thru b11.out b12).mono hbw.out.size))
            clear b12
            go_wp2_with fail
            go_ret
            exact ⟨rfl, fin.out⟩

end Go.Proofs.YtghpjljnbdjmaaaGreatDoor
