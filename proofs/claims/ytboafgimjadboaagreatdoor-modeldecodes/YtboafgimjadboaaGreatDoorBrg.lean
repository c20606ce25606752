/- The document's Groups, walked. The document's Next and Walk round a face, walked. The document's All, walked. -/
import Derived.Test.YtboafgimjadboaaGreatDoorBdoc
import Derived.Test.YtboafgimjadboaaGreatDoorBface
import Derived.Test.YtboafgimjadboaaGreatDoorBpure
import Derived.Test.YtboafgimjadboaaGreatDoorRef7
namespace Go.Proofs.YtboafgimjadboaaGreatDoor
open Go.RowKit
set_option linter.unusedVariables false

/-- The edges whose first darts a list has. -/
def evs (l : List Nat) : List Nat := (l.filter (fun d => d % 2 == 0)).map (· / 2)

theorem evs_yes {l : List Nat} {d : Nat} (h : d % 2 = 0) : evs (l ++ [d]) = evs l ++ [d / 2] := by
  unfold evs
  rw [List.filter_append, List.map_append]
  simp [h]
theorem evs_no {l : List Nat} {d : Nat} (h : d % 2 ≠ 0) : evs (l ++ [d]) = evs l := by
  unfold evs
  rw [List.filter_append, List.map_append]
  simp [h]

theorem evs_laid (V : Nat) (R : Nat → List Nat) : ∀ E, evs (laid V R (2 * E)) = es V R E
  | 0 => by classical simp [evs, laid, es]
  | E + 1 => by
    classical
    have ih := evs_laid V R E
    have e2 : es V R (E + 1) = es V R E ++ (if In V R (2 * E) then [E] else []) := by
      unfold es
      rw [List.range_succ, List.filter_append]
      by_cases q : In V R (2 * E)
      · simp [q]
      · simp [q]
    rw [show 2 * (E + 1) = 2 * E + 1 + 1 by omega, e2]
    by_cases q1 : In V R (2 * E)
    · by_cases q2 : In V R (2 * E + 1)
      · rw [laid_yes q2, evs_no (by omega), laid_yes q1, evs_yes (by omega), ih, if_pos q1, show 2 * E / 2 = E by omega]
      · rw [laid_no q2, laid_yes q1, evs_yes (by omega), ih, if_pos q1, show 2 * E / 2 = E by omega]
    · by_cases q2 : In V R (2 * E + 1)
      · rw [laid_yes q2, evs_no (by omega), laid_no q1, ih, if_neg q1, List.append_nil]
      · rw [laid_no q2, laid_no q1, ih, if_neg q1, List.append_nil]

theorem evs_even {l : List Nat} {i d : Nat} (hd : l[i]? = some d) (h : d % 2 = 0) : evs (l.take (i + 1)) = evs (l.take i) ++ [d / 2] := by
  rw [List.take_add_one, hd]
  exact evs_yes h
theorem evs_odd {l : List Nat} {i d : Nat} (hd : l[i]? = some d) (h : d % 2 ≠ 0) : evs (l.take (i + 1)) = evs (l.take i) := by
  rw [List.take_add_one, hd]
  exact evs_no h

theorem At.og {V E : Nat} {R : Nat → List Nat} (h : Tn V E R) {d : Nat} (hd : In V R d) {r s : Int} (ha : At V R (d : Int) r s) : r = (og V R d : Int) := by
  obtain ⟨h1, h2⟩ := og_is hd
  exact (At.found h h1 h2 ha).1

set_option maxRecDepth 100000 in
set_option maxHeartbeats 4000000 in
theorem rgroups_ok (tv : Value) (E V : Nat) (R : Nat → List Nat) (w : World) (hv : RT w tv E V R) (ht : Tn V E R) (hw : Tw V E R) (hE : E ≤ 1000) (hV1 : 1 ≤ V) (hV : V ≤ 1000) (hl : ∀ u, u < V → (R u).length ≤ 1000) :
    Calls Tryz.prog 64 #[tv] w fun e w' => ∃ u, e = .returned u ∧ Un.Ls w' u V (lb V E R) ∧ Below w.heap.size w w' := by
  have hda := hid (fun y (hy : Below w.heap.size w y) => rdarts_ok tv E V R y (hv.below hy) hE hV hl)
  have hfi := hid (fun (d : Int) y (hy : Below w.heap.size w y) => rfind_ok tv E V R d y (hv.below hy) hV hl)
  have hnw := hid (fun y => Un.rnew_ok V y hV1 hV)
  have hog : Hid (∀ d, In V R d → ∀ r s, At V R (d : Int) r s → r = (og V R d : Int)) := hid (fun d hd r s ha => At.og ht hd ha)
  have hogl : Hid (∀ d, In V R d → og V R d < V) := hid (fun d hd => (og_is hd).1)
  have htw : Hid (∀ d, d % 2 = 0 → In V R d → In V R (d + 1) ∧ og V R d = EA V R (d / 2) ∧ og V R (d + 1) = EB V R (d / 2)) := hid (fun d he hd => by
    have e : d = 2 * (d / 2) := by omega
    have hlw := hd.low ht
    refine ⟨?_, ?_, ?_⟩
    · rw [e]; exact (hw (d / 2) (by omega)).1 (by rw [← e]; exact hd)
    · unfold EA; rw [← e]
    · unfold EB; rw [← e])
  have hend : Hid (Un.jl (EA V R) (EB V R) (fun x => x) (evs (laid V R (2 * E))) = lb V E R) := by
    rw [evs_laid]
    exact hid rfl
  have hml : Hid (∀ x, x ∈ laid V R (2 * E) → In V R x ∧ x < 2 * E) := hid (fun x hx => ⟨(mem_laid.1 hx).2, (mem_laid.1 hx).1⟩)
  have hll := laid_len V R (2 * E)
  generalize laid V R (2 * E) = l at *
  obtain ⟨lv, rfl, hr⟩ := hv
  obtain ⟨c0, c1⟩ := two_new w (.int .i64 (E : Int)) lv 76
  have hbb := hid (balloc w (.cells #[.int .i64 (E : Int), lv] 76))
  obtain ⟨ad, cap, rfl, hcap, ⟨hcap2, _⟩, _⟩ := hr
  obtain ⟨w1, hw1⟩ : ∃ w1, w.alloc (.cells #[.int .i64 (E : Int), .slice ad V cap] 76) = w1 := ⟨_, rfl⟩
  rw [hw1] at c0 c1 hbb
  replace hw1 := hid hw1
  unfold maxLen at hcap2
  clear ht hw hl
  go_enter Tryz.func64, Tryz.ntmps64
  go_upto_region 1 with fail
  rw [hw1.out]
  go_wp2_with fail
  refine (hnw.out w1).mono ?_
  rintro e w2 ⟨gv, rfl, hgl, b2⟩
  have hb2 := hid (hbb.out.trans (b2.mono hbb.out.size))
  have d0 := (b2.cell (World.block_lt_of_cell? _ _ c0)).trans c0
  have d1 := (b2.cell (World.block_lt_of_cell? _ _ c1)).trans c1
  replace hgl := hid hgl
  clear b2 c0 c1 hnw
  go_wp2_with fail
  refine (hda.out w2 hb2.out).mono ?_
  rintro e w3 ⟨rv, rfl, hnl, b3⟩
  have hb3 := hid (hb2.out.trans (b3.mono hb2.out.size))
  have hF : Hid (∀ y, Below w3.heap.size w3 y → y.cell? ⟨w.heap.size, 0, none⟩ = some (.int .i64 (E : Int)) ∧ y.cell? ⟨w.heap.size, 1, none⟩ = some (.slice ad V cap)) := hid (fun y hy => by
    have x0 := (b3.cell (World.block_lt_of_cell? _ _ d0)).trans d0
    have x1 := (b3.cell (World.block_lt_of_cell? _ _ d1)).trans d1
    exact ⟨(hy.cell (World.block_lt_of_cell? _ _ x0)).trans x0, (hy.cell (World.block_lt_of_cell? _ _ x1)).trans x1⟩)
  have hgl3 := hid (hgl.out.below b3)
  have hnh := hid hnl
  obtain ⟨al, nl, cl, rfl, hnlen, ⟨hncap, _, _⟩, hncm, _⟩ := hnl
  unfold maxLen at hncm
  have hnb : nl ≤ 2000 := by omega
  replace hnlen := hid hnlen
  clear b3 d0 d1 hda hll hgl
  go_wp2_with fail
  go_loopw [3, 5, 6, 7, 8, 9] (fun g u _ _ _ _ wr => ∃ i : Nat, i ≤ nl ∧ u = .int .i64 (i : Int) ∧ Hid (Un.Ls wr g V (Un.jl (EA V R) (EB V R) (fun x => x) (evs (l.take i))) ∧ Below w3.heap.size w3 wr))
    (fun _ u _ _ _ _ _ => nl - (intOf u).toNat)
  case atStart => exact ⟨0, by omega, by go_num, hgl3.out, Below.refl _ _⟩
  case round =>
    obtain ⟨i, hi, rfl, hst⟩ := hrel
    clear hgl3
    rcases Nat.lt_or_ge i nl with hlt | hge
    · obtain ⟨x, hx⟩ : ∃ x, l[i]? = some x := ⟨_, List.getElem?_eq_getElem (by rw [hnlen.out]; exact hlt)⟩
      obtain ⟨hxi, hxl⟩ := hml.out x (List.mem_of_getElem? hx)
      obtain ⟨al', nl', cl', e9, _, _, _, hnc⟩ := hnh.out.below hst.out.2
      simp only [Value.slice.injEq] at e9
      obtain ⟨rfl, rfl, rfl⟩ := e9
      obtain ⟨gb, go, rfl, ex⟩ := hnc i x hx
      have i1' : (0 : Int) ≤ (i : Int) := by omega
      have i2' : (i : Int) < (nl : Int) := by omega
      have v1 : decide ((i : Int) < (nl : Int)) = true := decide_eq_true (by omega)
      clear hnc
      by_cases hev : x % 2 = 0
      · have t1 : ((x : Int) % 2 == 0) = true := by simp; omega
        obtain ⟨hxi2, ea, eb⟩ := htw.out x hev hxi
        obtain ⟨e0, e1⟩ := hF.out _ hst.out.2
        have hbz := hid (hb3.out.trans (hst.out.2.mono hb3.out.size))
        have hst' := hid hst.out
        have hfx := hid (hfi.out (x : Int) wr.drew hbz.out.drew)
        have hap : Hid (evs (l.take (i + 1)) = evs (l.take i) ++ [x / 2]) := hid (evs_even hx hev)
        have la := hogl.out x hxi
        have lbb := hogl.out (x + 1) hxi2
        have oga := hid (hog.out x hxi)
        have ogb := hid (hog.out (x + 1) hxi2)
        have hinst := hid (And.intro hxi hxi2)
        rw [ea] at oga la
        rw [eb] at ogb lbb
        clear hst hx ea eb hxi hxi2
        go_upto_region 7 with fail
        go_region_held3 (fun y' => y'.cell? ⟨w.heap.size, 0, none⟩ = some (.int .i64 (E : Int)) ∧ y'.cell? ⟨w.heap.size, 1, none⟩ = some (.slice ad V cap) ∧ y'.cell? ⟨gb, go + i, none⟩ = some (.int .i64 (x : Int))) (first | exact ⟨e0, e1, ex⟩ | exact ⟨f0, f1, fx1⟩ | go_keep) ((go_at_call 61; refine hfx.out.mono ?_; rintro q w4 ⟨r4, s4, rfl, hat4, b4⟩; have hb4 := hid b4; have f0 := (b4.cell (World.block_lt_of_cell? _ _ e0)).trans e0; have f1 := (b4.cell (World.block_lt_of_cell? _ _ e1)).trans e1; have fx1 := (b4.cell (World.block_lt_of_cell? _ _ ex)).trans ex; have hr4 := oga.out r4 s4 hat4; subst hr4; clear b4 hat4))
        have hst4 : Hid (Un.Ls w4 u3 V (Un.jl (EA V R) (EB V R) (fun x => x) (evs (l.take i))) ∧ Below w3.heap.size w3 w4) := by
          have b := (Below.refl wr.heap.size wr).drew.trans hb4.out
          exact hid ⟨hst'.out.1.below b, hst'.out.2.trans (b.mono hst'.out.2.size)⟩
        have hbz4 := hid (hb3.out.trans (hst4.out.2.mono hb3.out.size))
        have hfx2 := hid (hfi.out ((x : Int) + 1) w4.drew hbz4.out.drew)
        have s1 : IntKind.i64.wrap ((x : Int) + 1) = (x : Int) + 1 := by rw [IntKind.wrap_i64]; omega
        clear hst' hb4 e0 e1 ex hfx hbz
        go_upto_region 8 with fail
        go_region_held3 (fun y' => y'.cell? ⟨w.heap.size, 0, none⟩ = some (.int .i64 (E : Int)) ∧ y'.cell? ⟨w.heap.size, 1, none⟩ = some (.slice ad V cap) ∧ y'.cell? ⟨gb, go + i, none⟩ = some (.int .i64 (x : Int))) (first | exact ⟨f0, f1, fx1⟩ | exact ⟨g0, g1, gx1⟩ | go_keep) ((go_at_call 61; refine hfx2.out.mono ?_; rintro q w5 ⟨r5, s5, rfl, hat5, b5⟩; have hb5 := hid b5; have g0 := (b5.cell (World.block_lt_of_cell? _ _ f0)).trans f0; have g1 := (b5.cell (World.block_lt_of_cell? _ _ f1)).trans f1; have gx1 := (b5.cell (World.block_lt_of_cell? _ _ fx1)).trans fx1; have hr5 := ogb.out r5 s5 (by rw [show ((x + 1 : Nat) : Int) = (x : Int) + 1 by omega]; exact hat5); subst hr5; clear b5 hat5))
        have hst5 : Hid (Un.Ls w5 u3 V (Un.jl (EA V R) (EB V R) (fun x => x) (evs (l.take i))) ∧ Below w3.heap.size w3 w5) := by
          have b := (Below.refl w4.heap.size w4).drew.trans hb5.out
          exact hid ⟨hst4.out.1.below b, hst4.out.2.trans (b.mono hst4.out.2.size)⟩
        have hjs : Hid (∀ f, f = Un.jl (EA V R) (EB V R) (fun x => x) (evs (l.take i)) → Un.jn f (EA V R (x / 2)) (EB V R (x / 2)) = Un.jl (EA V R) (EB V R) (fun x => x) (evs (l.take (i + 1)))) := hid (fun f hf => by
          rw [hap.out, Un.jl_append, hf]
          rfl)
        have hlab : Hid (Un.Lab (Un.jl (EA V R) (EB V R) (fun x => x) (evs (l.take i)))) := hid (Un.jl_lab Un.Lab.start _)
        obtain ⟨f, hf⟩ : ∃ f, f = Un.jl (EA V R) (EB V R) (fun x => x) (evs (l.take i)) := ⟨_, rfl⟩
        rw [← hf] at hst5 hlab
        have hj2 := hid (hjs.out f hf)
        clear hjs hf hst4 hb5 f0 f1 fx1 g0 g1 gx1 hfx2 hbz4 oga ogb
        generalize EA V R (x / 2) = a at *
        generalize EB V R (x / 2) = b at *
        by_cases hab : f a = f b
        · have hjc := hid (Un.rjoin_same u3 V a b f w5 hst5.out.1 la lbb hV hab)
          go_wp2_with fail
          refine hjc.out.mono ?_
          rintro q w6 ⟨rfl, b6⟩
          have hnew : Hid (Un.Ls w6 u3 V (Un.jl (EA V R) (EB V R) (fun x => x) (evs (l.take (i + 1)))) ∧ Below w3.heap.size w3 w6) := by
            rw [← hj2.out, Un.jn_same hab]
            exact hid ⟨hst5.out.1.below b6, hst5.out.2.trans (b6.mono hst5.out.2.size)⟩
          clear b6 hjc
          go_wp2_with fail
          go_roundw
          case rel => exact ⟨i + 1, by omega, by go_num, hnew⟩
          case measure => simp [intOf]; omega
        · have hjc := hid (Un.rjoin_new u3 V a b f w5 hst5.out.1 la lbb hV hab (fun x _ => hlab.out.le x))
          go_wp2_with fail
          refine hjc.out.mono ?_
          rintro q w6 ⟨u6, rfl, hl6, b6⟩
          have hnew : Hid (Un.Ls w6 u6 V (Un.jl (EA V R) (EB V R) (fun x => x) (evs (l.take (i + 1)))) ∧ Below w3.heap.size w3 w6) := by
            rw [← hj2.out]
            exact hid ⟨hl6, hst5.out.2.trans (b6.mono hst5.out.2.size)⟩
          clear b6 hjc hl6
          go_wp2_with fail
          go_roundw
          case rel => exact ⟨i + 1, by omega, by go_num, hnew⟩
          case measure => simp [intOf]; omega
      · have t1 : ((x : Int) % 2 == 0) = false := by simp; omega
        have t2 : ¬ ((x : Int) % 2 = 0) := by omega
        have hnew : Hid (Un.Ls wr u3 V (Un.jl (EA V R) (EB V R) (fun x => x) (evs (l.take (i + 1)))) ∧ Below w3.heap.size w3 wr) := by
          rw [evs_odd hx hev]
          exact hst
        clear hst hx hxi
        go_wp2_with fail
        go_roundw
        case rel => exact ⟨i + 1, by omega, by go_num, hnew⟩
        case measure => simp [intOf]; omega
    · obtain rfl : i = nl := by omega
      have v1 : decide ((i : Int) < (i : Int)) = false := decide_eq_false (by omega)
      have fin : Hid (Un.Ls wr u3 V (lb V E R) ∧ Below w.heap.size w wr) := by
        have h := hst.out
        rw [List.take_of_length_le (by rw [hnlen.out]; exact Nat.le_refl _), hend.out] at h
        exact hid ⟨h.1, hb3.out.trans (h.2.mono hb3.out.size)⟩
      clear hst
      go_wp2_with fail
      go_ret
      exact ⟨_, rfl, fin.out.1, fin.out.2⟩

end Go.Proofs.YtboafgimjadboaaGreatDoor

namespace Go.Proofs.YtboafgimjadboaaGreatDoor
open Go.RowKit
set_option linter.unusedVariables false

open Pq (fl fl_length fl_succ)

set_option maxRecDepth 100000 in
set_option maxHeartbeats 2000000 in
theorem rfnext_ok (tv : Value) (E V d : Nat) (R : Nat → List Nat) (w : World) (hv : RT w tv E V R) (ht : Tn V E R) (hw : Tw V E R) (hd : In V R d) (hE : E ≤ 1000) (hV : V ≤ 1000) (hl : ∀ u, u < V → (R u).length ≤ 1000) :
    Calls Tryz.prog 135 #[tv, .int .i64 (d : Int)] w fun e w' => e = .returned (.int .i64 (fx V R d : Int)) ∧ Below w.heap.size w w' := by
  have hdl := hd.low ht
  have hti := hd.tw ht hw
  have htl := tw_lt hdl
  obtain ⟨u, hu, hm⟩ := id hti
  have hn := hid (fun y (hy : Below w.heap.size w y) => rnext_ok tv E V u (tw d) (fx V R d) R 1 y (hv.below hy) ht hu hm (.inl rfl) (fun _ => by rw [fx_yes hd, vx_at ht hu hm]) (fun q => by omega) hV hl)
  have htw : Hid (tw d = if d % 2 = 0 then d + 1 else d - 1) := hid rfl
  obtain ⟨lv, rfl, hr⟩ := hv
  obtain ⟨c0, c1⟩ := two_new w (.int .i64 (E : Int)) lv 76
  have hbb := hid (balloc w (.cells #[.int .i64 (E : Int), lv] 76))
  obtain ⟨w1, hw1⟩ : ∃ w1, w.alloc (.cells #[.int .i64 (E : Int), lv] 76) = w1 := ⟨_, rfl⟩
  rw [hw1] at c0 c1 hbb
  replace hw1 := hid hw1
  generalize tw d = t at hn htw htl
  generalize fx V R d = z at hn ⊢
  clear hr ht hw hd hti hm hl
  by_cases he : d % 2 = 0
  · obtain rfl : t = d + 1 := by rw [htw.out, if_pos he]
    have t1 : ((d : Int) % 2 == 1) = false := by simp; omega
    have t2 : ¬ ((d : Int) % 2 = 1) := by omega
    replace he := hid he
    rw [show ((d + 1 : Nat) : Int) = (d : Int) + 1 from by omega] at hn
    clear htw
    go_enter Tryz.func135, Tryz.ntmps135
    go_upto_region 1 with fail
    rw [hw1.out]
    go_wp2_with fail
    refine (hn.out _ hbb.out).mono ?_
    rintro e w2 ⟨rfl, b2⟩
    have hb2 := hid (hbb.out.trans (b2.mono hbb.out.size))
    clear b2
    go_wp2_with fail
    go_ret
    exact ⟨rfl, hb2.out⟩
  · obtain rfl : t = d - 1 := by rw [htw.out, if_neg he]
    have t1 : ((d : Int) % 2 == 1) = true := by simp; omega
    have hd0 : 1 ≤ d := by omega
    replace he := hid he
    rw [show ((d - 1 : Nat) : Int) = (d : Int) - 1 from by omega] at hn
    clear htw
    go_enter Tryz.func135, Tryz.ntmps135
    go_upto_region 1 with fail
    rw [hw1.out]
    go_wp2_with fail
    refine (hn.out _ hbb.out).mono ?_
    rintro e w2 ⟨rfl, b2⟩
    have hb2 := hid (hbb.out.trans (b2.mono hbb.out.size))
    clear b2
    go_wp2_with fail
    go_ret
    exact ⟨rfl, hb2.out⟩

set_option maxRecDepth 100000 in
set_option maxHeartbeats 4000000 in
theorem rwalk_ok (tv : Value) (E V x : Nat) (R : Nat → List Nat) (w : World) (hv : RT w tv E V R) (ht : Tn V E R) (hw : Tw V E R) (hx : In V R x) (hE : E ≤ 1000) (hV : V ≤ 1000) (hl : ∀ u, u < V → (R u).length ≤ 1000) :
    Calls Tryz.prog 118 #[tv, .int .i64 (x : Int)] w fun e w' => ∃ u, e = .returned u ∧ Rw w.heap.size w' u (Pq.orb (fx V R) x) ∧ Below w.heap.size w w' := by
  obtain ⟨i0, hif, hz0, hz1, hz2⟩ := info_parts infoInt
  have pm := fx_pm ht hw
  have hxl := hx.low ht
  obtain ⟨hp, hpn⟩ := pm.per_is hxl
  obtain ⟨d, hd⟩ : ∃ d, Pq.per (fx V R) x = d := ⟨_, rfl⟩
  have horb : Hid (Pq.orb (fx V R) x = fl d (fun i => Pq.it (fx V R) i x)) := by unfold Pq.orb; rw [hd]; exact hid rfl
  rw [hd] at hp hpn
  have hd1 := hp.pos
  replace hp := hid hp
  have hin := hid (fun k => (it_in ht hw (d := x) k).2 hx)
  have hnx := hid (fun (y : World) (k : Nat) (hy : Below w.heap.size w y) => rfnext_ok tv E V _ R y (hv.below hy) ht hw (hin.out k) hE hV hl)
  obtain ⟨lv, rfl, hr⟩ := hv
  obtain ⟨c0, c1⟩ := two_new w (.int .i64 (E : Int)) lv 76
  have hbb := hid (balloc w (.cells #[.int .i64 (E : Int), lv] 76))
  obtain ⟨w1, hw1⟩ : ∃ w1, w.alloc (.cells #[.int .i64 (E : Int), lv] 76) = w1 := ⟨_, rfl⟩
  have hs1 : w1.heap.size = w.heap.size + 1 := by rw [← hw1]; simp
  rw [hw1] at c0 c1 hbb
  replace hw1 := hid hw1
  replace hs1 := hid hs1
  replace c0 := hid c0
  replace c1 := hid c1
  have hst0 : Hid (Rw w1.heap.size (w1.alloc (.cells #[.int .i64 (x : Int)] 3)) (.slice (some ⟨w1.heap.size, 0, none⟩) 1 1) (fl (0 + 1) (fun i => Pq.it (fx V R) i x)) ∧ Below w1.heap.size w1 (w1.alloc (.cells #[.int .i64 (x : Int)] 3))) :=
    ⟨World.ownsRow_lit w1 #[.int .i64 (x : Int)] 1 (Nat.le_refl _) (by unfold maxLen; omega) rfl, balloc w1 _⟩
  clear hr ht hw hx pm hd hl
  go_enter Tryz.func118, Tryz.ntmps118
  go_upto_region 1 with fail
  rw [hw1.out]
  go_wp2_with fail
  go_loopw [5, 6, 7] (fun s5 s6 _ wr => ∃ k : Nat, k < d ∧ s6 = .int .i64 (k : Int) ∧ Hid (Rw w1.heap.size wr s5 (fl (k + 1) (fun i => Pq.it (fx V R) i x)) ∧ Below w1.heap.size w1 wr))
    (fun _ s6 _ _ => d - (intOf s6).toNat)
  case atStart => exact ⟨0, by omega, by go_num, hst0⟩
  case round =>
    obtain ⟨k, hkd, rfl, hst⟩ := hrel
    clear hst0
    have hown : wr.ownsRow w1.heap.size 3 1 u5 (fl (k + 1) (fun i => Pq.it (fx V R) i x)).length (ncs (fl (k + 1) (fun i => Pq.it (fx V R) i x))) := hst.out.1
    rw [fl_length] at hown
    obtain ⟨N, hN⟩ : ∃ N, N = k + 1 := ⟨_, rfl⟩
    have hownN : wr.ownsRow w1.heap.size 3 1 u5 N (ncs (fl (k + 1) (fun i => Pq.it (fx V R) i x))) := by rw [hN]; exact hown
    clear hown
    have hown := hownN
    clear hownN
    obtain ⟨g, cap, rfl, hcap, hcm⟩ := own_form hown (by omega)
    have s1 : IntKind.i64.wrap ((N : Int) - 1) = (k : Int) := by rw [IntKind.wrap_i64]; omega
    have hbw := hst.out.2
    have e0 := (hbw.cell (World.block_lt_of_cell? _ _ c0.out)).trans c0.out
    have e1 := (hbw.cell (World.block_lt_of_cell? _ _ c1.out)).trans c1.out
    have ek : wr.cell? ⟨g, k, none⟩ = some (.int .i64 (Pq.it (fx V R) k x : Int)) := by
      rw [hown.cellAt k (by omega)]
      simp [ncs, fl]
    have hbz := hid (hbb.out.trans (hbw.mono hbb.out.size))
    have hnk := hid (hnx.out wr.drew k hbz.out.drew)
    obtain ⟨y, hy⟩ : ∃ y, Pq.it (fx V R) k x = y := ⟨_, rfl⟩
    have hfy : Hid (fx V R y = Pq.it (fx V R) (k + 1) x) := by rw [← hy]; exact hid rfl
    rw [hy] at ek hnk
    rw [hfy.out] at hnk
    obtain ⟨z, hz⟩ : ∃ z, Pq.it (fx V R) (k + 1) x = z := ⟨_, rfl⟩
    rw [hz] at hnk
    have hzh := hid hz
    have v1 : decide ((k : Int) < 2 * (E : Int)) = true := decide_eq_true (by omega)
    have i1 : (0 : Int) ≤ (k : Int) := by omega
    have i2 : (k : Int) < (N : Int) := by omega
    have hNh := hid hN
    have hNb : N ≤ 2000 := by omega
    clear hN
    replace hown := hid hown
    replace hbw := hid hbw
    clear hst hy hz hfy
    go_upto_region 5 with fail
    go_region_held3 (fun y' => y'.cell? ⟨w.heap.size, 0, none⟩ = some (.int .i64 (E : Int)) ∧ y'.cell? ⟨w.heap.size, 1, none⟩ = some lv ∧ y'.cell? ⟨g, k, none⟩ = some (.int .i64 (y : Int))) (first | exact ⟨e0, e1, ek⟩ | exact ⟨f0, f1, fk⟩ | go_keep) ((go_at_call 135; refine hnk.out.mono ?_; rintro q w2 ⟨rfl, b2⟩; have hb2 := hid b2; have f0 := (b2.cell (World.block_lt_of_cell? _ _ e0)).trans e0; have f1 := (b2.cell (World.block_lt_of_cell? _ _ e1)).trans e1; have fk := (b2.cell (World.block_lt_of_cell? _ _ ek)).trans ek; clear b2))
    have hown2 := ownsRow_below hown.out (w' := w2) ((Below.refl wr.heap.size wr).drew.trans hb2.out)
    have hbw2 : Below w1.heap.size w1 w2 := hbw.out.drew.trans (hb2.out.mono hbw.out.size)
    have hbz2 : Hid (Below w.heap.size w w2) := hid (hbz.out.drew.trans (hb2.out.mono hbz.out.size))
    clear hown hbw hb2 e0 e1 ek f0 f1 fk
    by_cases ez : z = x
    · have hkd' : k + 1 = d := by
        rcases Nat.lt_or_ge (k + 1) d with hl | hl
        · exact absurd (hzh.out.trans ez) (hp.out.least (k + 1) (by omega) hl)
        · omega
      have t1 : ((z : Int) == (x : Int)) = true := by simp [ez]
      have fin : Hid (Rw w.heap.size w2 (.slice (some ⟨g, 0, none⟩) N cap) (Pq.orb (fx V R) x)) := by
        rw [horb.out, ← hkd']
        have : w2.ownsRow w1.heap.size 3 1 (.slice (some ⟨g, 0, none⟩) N cap) (fl (k + 1) (fun i => Pq.it (fx V R) i x)).length (ncs (fl (k + 1) (fun i => Pq.it (fx V R) i x))) := by
          rw [fl_length, ← hNh.out]
          have q := hown2
          rw [← hNh.out] at q
          exact q
        exact hid (own_low this (by rw [hs1.out]; omega))
      clear hown2 hbw2
      subst ez
      go_wp2_with fail
      go_ret
      exact ⟨_, rfl, fin.out, hbz2.out⟩
    · have hkd' : k + 1 < d := by
        rcases Nat.lt_or_ge (k + 1) d with hl | hl
        · exact hl
        · have e : k + 1 = d := by omega
          exact absurd (by rw [← hzh.out, e]; exact hp.out.at_) ez
      have t1 : ((z : Int) == (x : Int)) = false := by simp; omega
      have t3 : ¬ ((z : Int) = (x : Int)) := by omega
      have hsz := hbw2.size
      go_wp2_with (at_builtin; refine wpList_append_own _ rfl (.tmp 29) (.tmp 31) 55 rfl w1.heap.size 3 i0 _ 1 8 Tryz.underlying55 hif hz0 hz1 hz2 rfl (by decide) _ _ _ rfl (hown2.alloc _) ⟨w2.heap.size, 0, none⟩ 1 1 [.int .i64 (z : Int)] rfl rfl (one_new w2 _ _) (by simp [Value.oneCell']) (by unfold maxLen; omega) (by omega) (by simp; omega) ?_; intro v' w' ho' hg' _; refine Hid.out ?_)
      have hnew : Hid (Rw w1.heap.size w' v' (fl (k + 1 + 1) (fun i => Pq.it (fx V R) i x)) ∧ Below w1.heap.size w1 w') := by
        refine ⟨?_, below_row (hbw2.alloc hsz _) (Nat.le_refl _) (hown2.alloc _) (Nat.le_refl _) hg'⟩
        unfold Rw
        rw [fl_length, fl_succ, ncs_append, hzh.out, ← hNh.out]
        have q := ho'
        rw [← hNh.out] at q
        exact q
      clear ho' hg' hown2 hbw2
      refine hid ?_
      go_wp2_with fail
      go_roundw
      case rel => exact ⟨k + 1, hkd', by go_num, hnew⟩
      case measure => simp [intOf]; omega

end Go.Proofs.YtboafgimjadboaaGreatDoor

namespace Go.Proofs.YtboafgimjadboaaGreatDoor
open Go.RowKit
set_option linter.unusedVariables false

open Classical in
/-- The faces whose least darts these are. -/
noncomputable def frl (f : Nat → Nat) (l : List Nat) : List (List Nat) := (l.filter (fun x => decide (Pq.lst f x))).map (Pq.orb f)

theorem frl_yes {f : Nat → Nat} {l : List Nat} {x : Nat} (h : Pq.lst f x) : frl f (l ++ [x]) = frl f l ++ [Pq.orb f x] := by
  classical
  unfold frl
  rw [List.filter_append, List.map_append]
  simp [h]
theorem frl_no {f : Nat → Nat} {l : List Nat} {x : Nat} (h : ¬ Pq.lst f x) : frl f (l ++ [x]) = frl f l := by
  classical
  unfold frl
  rw [List.filter_append, List.map_append]
  simp [h]
theorem frl_le (f : Nat → Nat) (l : List Nat) : (frl f l).length ≤ l.length := by
  classical
  unfold frl
  rw [List.length_map]
  exact List.length_filter_le _ _

theorem frl_fcs (V : Nat) (R : Nat → List Nat) : ∀ n, frl (fx V R) (laid V R n) = fcs V R n
  | 0 => by classical simp [frl, laid, fcs]
  | n + 1 => by
    by_cases hi : In V R n
    · rw [laid_yes hi]
      by_cases hl : Pq.lst (fx V R) n
      · rw [frl_yes hl, fcs_yes hi hl, frl_fcs V R n]
      · rw [frl_no hl, fcs_no (fun q => hl q.2), frl_fcs V R n]
    · rw [laid_no hi, fcs_no (fun q => hi q.1), frl_fcs V R n]

set_option maxRecDepth 100000 in
set_option maxHeartbeats 4000000 in
theorem rall_ok (tv : Value) (E V : Nat) (R : Nat → List Nat) (w : World) (hv : RT w tv E V R) (ht : Tn V E R) (hw : Tw V E R) (hE : E ≤ 1000) (hV : V ≤ 1000) (hl : ∀ u, u < V → (R u).length ≤ 1000) :
    Calls Tryz.prog 89 #[tv] w fun e w' => ∃ u, e = .returned u ∧ Rg w.heap.size w' u (fcs V R (2 * E)) ∧ Below w.heap.size w w' := by
  obtain ⟨i1, hjf, hy0, hy1, hy2⟩ := info_parts infoInts
  have hda := hid (fun y (hy : Below w.heap.size w y) => rdarts_ok tv E V R y (hv.below hy) hE hV hl)
  have hwa := hid (fun (y : World) (x : Nat) (hx : In V R x) (hy : Below w.heap.size w y) => rwalk_ok tv E V x R y (hv.below hy) ht hw hx hE hV hl)
  have hpm := hid (fx_pm ht hw)
  have hlow : Hid (∀ x, In V R x → x < 2 * E) := hid (fun x hx => hx.low ht)
  have hff := hid (frl_fcs V R (2 * E))
  have hml : Hid (∀ x, x ∈ laid V R (2 * E) → In V R x) := hid (fun x hx => (mem_laid.1 hx).2)
  have hll := laid_len V R (2 * E)
  rw [← hff.out]
  clear hff
  generalize laid V R (2 * E) = l at *
  obtain ⟨lv, rfl, hr⟩ := hv
  obtain ⟨c0, c1⟩ := two_new w (.int .i64 (E : Int)) lv 76
  have hbb := hid (balloc w (.cells #[.int .i64 (E : Int), lv] 76))
  obtain ⟨w1, hw1⟩ : ∃ w1, w.alloc (.cells #[.int .i64 (E : Int), lv] 76) = w1 := ⟨_, rfl⟩
  have hs1 : w1.heap.size = w.heap.size + 1 := by rw [← hw1]; simp
  rw [hw1] at c0 c1 hbb
  replace hw1 := hid hw1
  replace hs1 := hid hs1
  clear hr ht hw hl
  go_enter Tryz.func89, Tryz.ntmps89
  go_upto_region 1 with fail
  rw [hw1.out]
  go_wp2_with fail
  refine (hda.out w1 hbb.out).mono ?_
  rintro e w2 ⟨rv, rfl, hnl, b2⟩
  have d0 := hid ((b2.cell (World.block_lt_of_cell? _ _ c0)).trans c0)
  have d1 := hid ((b2.cell (World.block_lt_of_cell? _ _ c1)).trans c1)
  have hb2 := hid (hbb.out.trans (b2.mono hbb.out.size))
  have hnh := hid hnl
  obtain ⟨al, nl, cl, rfl, hnlen, ⟨hncap, _, _⟩, hncm, _⟩ := hnl
  unfold maxLen at hncm
  have hnb : nl ≤ 2000 := by omega
  replace hnlen := hid hnlen
  clear b2 c0 c1 hda hll
  have hst0 : Hid (Rg w2.heap.size w2 (.slice none 0 0) (frl (fx V R) (l.take 0)) ∧ Below w2.heap.size w2 w2) := by
    have : frl (fx V R) (l.take 0) = [] := by classical simp [frl]
    rw [this]
    exact ⟨Rg.nil _ _, Below.refl _ _⟩
  go_wp2_with fail
  go_loopw [3, 5, 6, 7, 8] (fun o u _ _ _ wr => ∃ x : Nat, x ≤ nl ∧ u = .int .i64 (x : Int) ∧ Hid (Rg w2.heap.size wr o (frl (fx V R) (l.take x)) ∧ Below w2.heap.size w2 wr))
    (fun _ u _ _ _ _ => nl - (intOf u).toNat)
  case atStart => exact ⟨0, by omega, by go_num, hst0⟩
  case round =>
    obtain ⟨i, hi, rfl, hst⟩ := hrel
    clear hst0
    rcases Nat.lt_or_ge i nl with hlt | hge
    · obtain ⟨x, hx⟩ : ∃ x, l[i]? = some x := ⟨_, List.getElem?_eq_getElem (by rw [hnlen.out]; exact hlt)⟩
      have hxi := hml.out x (List.mem_of_getElem? hx)
      have hxl := hlow.out x hxi
      have hbw := hst.out.2
      have hbz := hid (hb2.out.trans (hbw.mono hb2.out.size))
      have e0 := (hbw.cell (World.block_lt_of_cell? _ _ d0.out)).trans d0.out
      have e1 := (hbw.cell (World.block_lt_of_cell? _ _ d1.out)).trans d1.out
      obtain ⟨al', nl', cl', e9, _, _, _, hnc⟩ := hnh.out.below hbw
      simp only [Value.slice.injEq] at e9
      obtain ⟨rfl, rfl, rfl⟩ := e9
      obtain ⟨gb, go, rfl, ex⟩ := hnc i x hx
      have hwx := hid (hwa.out wr.drew x hxi hbz.out.drew)
      have i1' : (0 : Int) ≤ (i : Int) := by omega
      have i2' : (i : Int) < (nl : Int) := by omega
      have v1 : decide ((i : Int) < (nl : Int)) = true := decide_eq_true (by omega)
      have htk : Hid (l.take (i + 1) = l.take i ++ [x]) := hid (ntake hx)
      replace hbw := hid hbw
      clear hnc hxi
      go_upto_region 6 with fail
      go_region_held3 (fun y' => y'.cell? ⟨w.heap.size, 0, none⟩ = some (.int .i64 (E : Int)) ∧ y'.cell? ⟨w.heap.size, 1, none⟩ = some lv ∧ y'.cell? ⟨gb, go + i, none⟩ = some (.int .i64 (x : Int))) (first | exact ⟨e0, e1, ex⟩ | exact ⟨f0, f1, fx1⟩ | go_keep) ((go_at_call 118; refine hwx.out.mono ?_; rintro q w3 ⟨c, rfl, hr3, b3⟩; have hb3 := hid b3; have hrw := hid hr3; have f0 := (b3.cell (World.block_lt_of_cell? _ _ e0)).trans e0; have f1 := (b3.cell (World.block_lt_of_cell? _ _ e1)).trans e1; have fx1 := (b3.cell (World.block_lt_of_cell? _ _ ex)).trans ex; clear b3 hr3))
      have hbd : Below wr.heap.size wr w3 := (Below.refl wr.heap.size wr).drew.trans hb3.out
      have hst3 : Hid (Rg w2.heap.size w3 u3 (frl (fx V R) (l.take i)) ∧ Below w2.heap.size w2 w3 ∧ Rw w2.heap.size w3 c (Pq.orb (fx V R) x)) := hid ⟨hst.out.1.more hbd, hbw.out.trans (hbd.mono hbw.out.size), hrw.out.low hbw.out.size⟩
      obtain ⟨d, hd⟩ : ∃ d, (Pq.orb (fx V R) x).length = d := ⟨_, rfl⟩
      have hdn : d ≤ 2000 := by
        have := (hpm.out.per_is hxl).2
        have h2 : (Pq.orb (fx V R) x).length = Pq.per (fx V R) x := by unfold Pq.orb; simp
        omega
      obtain ⟨ac, cc, rfl⟩ : ∃ ac cc, c = .slice ac d cc := by
        obtain ⟨ac, cc, h1, _⟩ := own_any hst3.out.2.2
        exact ⟨ac, cc, by rw [h1, hd]⟩
      replace hd := hid hd
      clear hst hbw hwx e0 e1 ex hbd hrw hb3 f0 f1
      go_wp2_with fail
      go_loopw [7, 8] (fun u7 u8 wy => ∃ k m : Nat, k ≤ d ∧ m ≤ x ∧ u8 = .int .i64 (k : Int) ∧ u7 = .int .i64 (m : Int) ∧ Hid ((m = x ∨ m ∈ Pq.orb (fx V R) x) ∧ (∀ j y, j < k → (Pq.orb (fx V R) x)[j]? = some y → m ≤ y)) ∧ Hid (wy = w3))
        (fun _ u _ => d - (intOf u).toNat)
      case atStart => exact ⟨0, x, by omega, Nat.le_refl _, by go_num, rfl, ⟨.inl rfl, fun j y hj => by omega⟩, rfl⟩
      case round =>
        obtain ⟨k, m, hk, hmx, rfl, rfl, hm, hwy⟩ := hrel
        have hwy' := hwy.out
        subst hwy'
        clear hwy
        rcases Nat.lt_or_ge k d with hkd | hkd
        · obtain ⟨z, hz⟩ : ∃ z, (Pq.orb (fx V R) x)[k]? = some z := ⟨_, List.getElem?_eq_getElem (by rw [hd.out]; exact hkd)⟩
          obtain ⟨g3, q3, c3, e3, _, _, _, hI⟩ := hst3.out.2.2.nl
          obtain ⟨rfl, rfl, rfl⟩ : ac = g3 ∧ d = q3 ∧ cc = c3 := by simpa using e3
          obtain ⟨b4, o4, rfl, c4⟩ := hI k _ hz
          have j3 : (0 : Int) ≤ (k : Int) := by omega
          have j4 : (k : Int) < (d : Int) := by omega
          have v3 : decide ((k : Int) < (d : Int)) = true := decide_eq_true (by omega)
          have hnew : Hid ((min m z = x ∨ min m z ∈ Pq.orb (fx V R) x) ∧ (∀ j y, j < k + 1 → (Pq.orb (fx V R) x)[j]? = some y → min m z ≤ y)) := by
            refine ⟨?_, fun j y hj hy => ?_⟩
            · rcases Nat.le_total m z with h | h
              · rw [Nat.min_eq_left h]; exact hm.out.1
              · rw [Nat.min_eq_right h]; exact .inr (List.mem_of_getElem? hz)
            · by_cases e : j = k
              · subst e
                rw [hz] at hy
                cases hy
                omega
              · have := hm.out.2 j y (by omega) hy
                omega
          have hmin : Hid (min (m : Int) (z : Int) = ((min m z : Nat) : Int)) := hid (by omega)
          clear hI e3 hz hm
          go_wp2_with fail
          try rw [hmin.out]
          go_roundw
          case rel => exact ⟨k + 1, min m z, by omega, by omega, by go_num, by first | rfl | (rw [hmin.out]) | (congr 1; split <;> omega), hnew, by first | exact trivial | exact rfl⟩
          case measure => simp [intOf]; omega
        · obtain rfl : k = d := by omega
          have v3 : decide ((k : Int) < (k : Int)) = false := decide_eq_false (by omega)
          by_cases emx : m = x
          · have hyes : Hid (Pq.lst (fx V R) x) := by
              subst emx
              refine hid (Pq.lst_of.2 (fun y hy => ?_))
              obtain ⟨j, hj⟩ := List.getElem?_of_mem ((hpm.out.mem_orb hxl).2 hy)
              exact hm.out.2 j y (by rw [← hd.out]; exact (List.getElem?_eq_some_iff.1 hj).1) hj
            have t4 : ((m : Int) == (x : Int)) = true := by simp [emx]
            obtain ⟨⟨us, hus, ho, hrs⟩, hB, hR⟩ := hst3.out
            have hle := frl_le (fx V R) (l.take i)
            have hle2 : (frl (fx V R) (l.take i)).length ≤ 2000 := by
              rw [List.length_take] at hle
              omega
            have hba := hid (balloc wr (.cells #[.slice ac k cc] 55))
            have hszr := hB.size
            replace hB := hid hB
            replace hrs := hid hrs
            replace hR := hid hR
            replace hus := hid hus
            clear hm hst3 hle
            subst emx
            go_wp2_with (at_builtin; refine wpList_append_own _ rfl (.tmp 45) (.tmp 47) 28 rfl w2.heap.size 55 i1 _ 1 24 Tryz.underlying28 hjf hy0 hy1 hy2 rfl (by decide) _ _ _ rfl (ho.alloc _) ⟨wr.heap.size, 0, none⟩ 1 1 [.slice ac k cc] rfl rfl (one_new wr _ _) (by simp [Value.oneCell']) (by unfold maxLen; omega) (by omega) (by simp; omega) ?_; intro v5 w5 ho5 hg5 _; refine Hid.out ?_)
            have hnew : Hid (Rg w2.heap.size w5 v5 (frl (fx V R) (l.take (i + 1))) ∧ Below w2.heap.size w2 w5) := by
              rw [htk.out, frl_yes hyes.out]
              exact ⟨Rg.push hus.out (ho.alloc _) (fun i l u hi hj => (hrs.out i l u hi hj).more hba.out) (hR.out.more hba.out) ho5 hg5, below_row (hB.out.alloc hszr _) (Nat.le_refl _) (ho.alloc _) (Nat.le_refl _) hg5⟩
            clear ho5 hg5 ho hrs hR
            refine hid ?_
            go_wp2_with fail
            go_roundw
            case rel => exact ⟨i + 1, by omega, by go_num, hnew⟩
            case measure => simp [intOf]; omega
          · have hno : ¬ Pq.lst (fx V R) x := fun q => by
              rcases hm.out.1 with e | e
              · exact emx e
              · have := Pq.lst_of.1 q m ((hpm.out.mem_orb hxl).1 e)
                omega
            have t4 : ((m : Int) == (x : Int)) = false := by simp; omega
            have t5 : ¬ ((m : Int) = (x : Int)) := by omega
            have hnew : Hid (Rg w2.heap.size wr u3 (frl (fx V R) (l.take (i + 1))) ∧ Below w2.heap.size w2 wr) := by
              rw [htk.out, frl_no hno]
              exact hid ⟨hst3.out.1, hst3.out.2.1⟩
            clear hm hst3 hno
            go_wp2_with fail
            go_roundw
            case rel => exact ⟨i + 1, by omega, by go_num, hnew⟩
            case measure => simp [intOf]; omega
    · obtain rfl : i = nl := by omega
      have v1 : decide ((i : Int) < (i : Int)) = false := decide_eq_false (by omega)
      have fin : Hid (Rg w.heap.size wr u3 (frl (fx V R) l) ∧ Below w.heap.size w wr) := by
        have h := hst.out
        rw [List.take_of_length_le (by rw [hnlen.out]; exact Nat.le_refl _)] at h
        exact ⟨h.1.low hb2.out.size, hb2.out.trans (h.2.mono hb2.out.size)⟩
      clear hst
      go_wp2_with fail
      go_ret
      exact ⟨_, rfl, fin.out.1, fin.out.2⟩

end Go.Proofs.YtboafgimjadboaaGreatDoor
