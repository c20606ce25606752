/- The document's Groups, walked. -/
import Derived.Test.YtghpjljnbdjmaaaGreatDoorBfind
import Derived.Test.YtghpjljnbdjmaaaGreatDoorBpure
import Derived.Test.YtghpjljnbdjmaaaGreatDoorRef7
namespace Go.Proofs.YtghpjljnbdjmaaaGreatDoor
open Go.RowKit
set_option linter.unusedVariables false

/-- The edges whose first darts a list has. -/
def evs (l : List Nat) : List Nat := (l.filter (fun d => d % 2 == 0)).map (· / 2)

theorem evs_yes {l : List Nat} {d : Nat} (h : d % 2 = 0) : evs (l ++ [d]) = evs l ++ [d / 2] := by
  unfold evs
  rw [List.filter_append, List.map_append]
  simp [h]
theorem evs_no {l : List Nat} {d : Nat} (h : d % 2 ≠ 0) : evs (l ++ [d]) = evs l := by
  unfold evs
  rw [List.filter_append, List.map_append]
  simp [h]

theorem evs_laid (V : Nat) (R : Nat → List Nat) : ∀ E, evs (laid V R (2 * E)) = es V R E
  | 0 => by classical simp [evs, laid, es]
  | E + 1 => by
    classical
    have ih := evs_laid V R E
    have e2 : es V R (E + 1) = es V R E ++ (if In V R (2 * E) then [E] else []) := by
      unfold es
      rw [List.range_succ, List.filter_append]
      by_cases q : In V R (2 * E)
      · simp [q]
      · simp [q]
    rw [show 2 * (E + 1) = 2 * E + 1 + 1 by omega, e2]
    by_cases q1 : In V R (2 * E)
    · by_cases q2 : In V R (2 * E + 1)
      · rw [laid_yes q2, evs_no (by omega), laid_yes q1, evs_yes (by omega), ih, if_pos q1, show 2 * E / 2 = E by omega]
      · rw [laid_no q2, laid_yes q1, evs_yes (by omega), ih, if_pos q1, show 2 * E / 2 = E by omega]
    · by_cases q2 : In V R (2 * E + 1)
      · rw [laid_yes q2, evs_no (by omega), laid_no q1, ih, if_neg q1, List.append_nil]
      · rw [laid_no q2, laid_no q1, ih, if_neg q1, List.append_nil]

theorem evs_even {l : List Nat} {i d : Nat} (hd : l[i]? = some d) (h : d % 2 = 0) : evs (l.take (i + 1)) = evs (l.take i) ++ [d / 2] := by
  rw [List.take_add_one, hd]
  exact evs_yes h
theorem evs_odd {l : List Nat} {i d : Nat} (hd : l[i]? = some d) (h : d % 2 ≠ 0) : evs (l.take (i + 1)) = evs (l.take i) := by
  rw [List.take_add_one, hd]
  exact evs_no h

theorem At.og {V E : Nat} {R : Nat → List Nat} (h : Tn V E R) {d : Nat} (hd : In V R d) {r s : Int} (ha : At V R (d : Int) r s) : r = (og V R d : Int) := by
  obtain ⟨h1, h2⟩ := og_is hd
  exact (At.found h h1 h2 ha).1

set_option maxRecDepth 100000 in
set_option maxHeartbeats 4000000 in
theorem rgroups_ok (tv : Value) (E V : Nat) (R : Nat → List Nat) (w : World) (hv : RT w tv E V R) (ht : Tn V E R) (hw : Tw V E R) (hE : E ≤ 1000) (hV1 : 1 ≤ V) (hV : V ≤ 1000) (hl : ∀ u, u < V → (R u).length ≤ 1000) :
    Calls Tryz.prog 14 #[tv] w fun e w' => ∃ u, e = .returned u ∧ Un.Ls w' u V (lb V E R) ∧ Below w.heap.size w w' := by
  have hda := hid (fun y (hy : Below w.heap.size w y) => rdarts_ok tv E V R y (hv.below hy) hE hV hl)
  have hfi := hid (fun (d : Int) y (hy : Below w.heap.size w y) => rfind_ok tv E V R d y (hv.below hy) hV hl)
  have hnw := hid (fun y => Un.rnew_ok V y hV1 hV)
  have hog : Hid (∀ d, In V R d → ∀ r s, At V R (d : Int) r s → r = (og V R d : Int)) := hid (fun d hd r s ha => At.og ht hd ha)
  have hogl : Hid (∀ d, In V R d → og V R d < V) := hid (fun d hd => (og_is hd).1)
  have htw : Hid (∀ d, d % 2 = 0 → In V R d → In V R (d + 1) ∧ og V R d = EA V R (d / 2) ∧ og V R (d + 1) = EB V R (d / 2)) := hid (fun d he hd => by
    have e : d = 2 * (d / 2) := by omega
    have hlw := hd.low ht
    refine ⟨?_, ?_, ?_⟩
    · rw [e]; exact (hw (d / 2) (by omega)).1 (by rw [← e]; exact hd)
    · unfold EA; rw [← e]
    · unfold EB; rw [← e])
  have hend : Hid (Un.jl (EA V R) (EB V R) (fun x => x) (evs (laid V R (2 * E))) = lb V E R) := by
    rw [evs_laid]
    exact hid rfl
  have hml : Hid (∀ x, x ∈ laid V R (2 * E) → In V R x ∧ x < 2 * E) := hid (fun x hx => ⟨(mem_laid.1 hx).2, (mem_laid.1 hx).1⟩)
  have hll := laid_len V R (2 * E)
  generalize laid V R (2 * E) = l at *
  obtain ⟨lv, rfl, hr⟩ := hv
  obtain ⟨c0, c1⟩ := two_new w (.int .i64 (E : Int)) lv 27
  have hbb := hid (balloc w (.cells #[.int .i64 (E : Int), lv] 27))
  obtain ⟨ad, cap, rfl, hcap, ⟨hcap2, _⟩, _⟩ := hr
  obtain ⟨w1, hw1⟩ : ∃ w1, w.alloc (.cells #[.int .i64 (E : Int), .slice ad V cap] 27) = w1 := ⟨_, rfl⟩
  rw [hw1] at c0 c1 hbb
  replace hw1 := hid hw1
  unfold maxLen at hcap2
  clear ht hw hl
  go_enter Tryz.func14, Tryz.ntmps14
  go_upto_region 1 with fail
  rw [hw1.out]
  go_wp2_with fail
  refine (hnw.out w1).mono ?_
  rintro e w2 ⟨gv, rfl, hgl, b2⟩
  have hb2 := hid (hbb.out.trans (b2.mono hbb.out.size))
  have d0 := (b2.cell (World.block_lt_of_cell? _ _ c0)).trans c0
  have d1 := (b2.cell (World.block_lt_of_cell? _ _ c1)).trans c1
  replace hgl := hid hgl
  clear b2 c0 c1 hnw
  go_wp2_with fail
  refine (hda.out w2 hb2.out).mono ?_
  rintro e w3 ⟨rv, rfl, hnl, b3⟩
  have hb3 := hid (hb2.out.trans (b3.mono hb2.out.size))
  have hF : Hid (∀ y, Below w3.heap.size w3 y → y.cell? ⟨w.heap.size, 0, none⟩ = some (.int .i64 (E : Int)) ∧ y.cell? ⟨w.heap.size, 1, none⟩ = some (.slice ad V cap)) := hid (fun y hy => by
    have x0 := (b3.cell (World.block_lt_of_cell? _ _ d0)).trans d0
    have x1 := (b3.cell (World.block_lt_of_cell? _ _ d1)).trans d1
    exact ⟨(hy.cell (World.block_lt_of_cell? _ _ x0)).trans x0, (hy.cell (World.block_lt_of_cell? _ _ x1)).trans x1⟩)
  have hgl3 := hid (hgl.out.below b3)
  have hnh := hid hnl
  obtain ⟨al, nl, cl, rfl, hnlen, ⟨hncap, _, _⟩, hncm, _⟩ := hnl
  unfold maxLen at hncm
  have hnb : nl ≤ 2000 := by omega
  replace hnlen := hid hnlen
  clear b3 d0 d1 hda hll hgl
  go_wp2_with fail
  go_loopw [3, 5, 6, 7, 8, 9] (fun g u _ _ _ _ wr => ∃ i : Nat, i ≤ nl ∧ u = .int .i64 (i : Int) ∧ Hid (Un.Ls wr g V (Un.jl (EA V R) (EB V R) (fun x => x) (evs (l.take i))) ∧ Below w3.heap.size w3 wr))
    (fun _ u _ _ _ _ _ => nl - (intOf u).toNat)
  case atStart => exact ⟨0, by omega, by go_num, hgl3.out, Below.refl _ _⟩
  case round =>
    obtain ⟨i, hi, rfl, hst⟩ := hrel
    clear hgl3
    rcases Nat.lt_or_ge i nl with hlt | hge
    · obtain ⟨x, hx⟩ : ∃ x, l[i]? = some x := ⟨_, List.getElem?_eq_getElem (by rw [hnlen.out]; exact hlt)⟩
      obtain ⟨hxi, hxl⟩ := hml.out x (List.mem_of_getElem? hx)
      obtain ⟨al', nl', cl', e9, _, _, _, hnc⟩ := hnh.out.below hst.out.2
      simp only [Value.slice.injEq] at e9
      obtain ⟨rfl, rfl, rfl⟩ := e9
      obtain ⟨gb, go, rfl, ex⟩ := hnc i x hx
      have i1' : (0 : Int) ≤ (i : Int) := by omega
      have i2' : (i : Int) < (nl : Int) := by omega
      have v1 : decide ((i : Int) < (nl : Int)) = true := decide_eq_true (by omega)
      clear hnc
      by_cases hev : x % 2 = 0
      · have t1 : ((x : Int) % 2 == 0) = true := by simp; omega
        obtain ⟨hxi2, ea, eb⟩ := htw.out x hev hxi
        obtain ⟨e0, e1⟩ := hF.out _ hst.out.2
        have hbz := hid (hb3.out.trans (hst.out.2.mono hb3.out.size))
        have hst' := hid hst.out
        have hfx := hid (hfi.out (x : Int) wr.drew hbz.out.drew)
        have hap : Hid (evs (l.take (i + 1)) = evs (l.take i) ++ [x / 2]) := hid (evs_even hx hev)
        have la := hogl.out x hxi
        have lbb := hogl.out (x + 1) hxi2
        have oga := hid (hog.out x hxi)
        have ogb := hid (hog.out (x + 1) hxi2)
        have hinst := hid (And.intro hxi hxi2)
        rw [ea] at oga la
        rw [eb] at ogb lbb
        clear hst hx ea eb hxi hxi2
        go_upto_region 7 with fail
        go_region_held3 (fun y' => y'.cell? ⟨w.heap.size, 0, none⟩ = some (.int .i64 (E : Int)) ∧ y'.cell? ⟨w.heap.size, 1, none⟩ = some (.slice ad V cap) ∧ y'.cell? ⟨gb, go + i, none⟩ = some (.int .i64 (x : Int))) (first | exact ⟨e0, e1, ex⟩ | exact ⟨f0, f1, fx1⟩ | go_keep) ((go_at_call 19; refine hfx.out.mono ?_; rintro q w4 ⟨r4, s4, rfl, hat4, b4⟩; have hb4 := hid b4; have f0 := (b4.cell (World.block_lt_of_cell? _ _ e0)).trans e0; have f1 := (b4.cell (World.block_lt_of_cell? _ _ e1)).trans e1; have fx1 := (b4.cell (World.block_lt_of_cell? _ _ ex)).trans ex; have hr4 := oga.out r4 s4 hat4; subst hr4; clear b4 hat4))
        have hst4 : Hid (Un.Ls w4 u3 V (Un.jl (EA V R) (EB V R) (fun x => x) (evs (l.take i))) ∧ Below w3.heap.size w3 w4) := by
          have b := (Below.refl wr.heap.size wr).drew.trans hb4.out
          exact hid ⟨hst'.out.1.below b, hst'.out.2.trans (b.mono hst'.out.2.size)⟩
        have hbz4 := hid (hb3.out.trans (hst4.out.2.mono hb3.out.size))
        have hfx2 := hid (hfi.out ((x : Int) + 1) w4.drew hbz4.out.drew)
        have s1 : IntKind.i64.wrap ((x : Int) + 1) = (x : Int) + 1 := by rw [IntKind.wrap_i64]; omega
        clear hst' hb4 e0 e1 ex hfx hbz
        go_upto_region 8 with fail
        go_region_held3 (fun y' => y'.cell? ⟨w.heap.size, 0, none⟩ = some (.int .i64 (E : Int)) ∧ y'.cell? ⟨w.heap.size, 1, none⟩ = some (.slice ad V cap) ∧ y'.cell? ⟨gb, go + i, none⟩ = some (.int .i64 (x : Int))) (first | exact ⟨f0, f1, fx1⟩ | exact ⟨g0, g1, gx1⟩ | go_keep) ((go_at_call 19; refine hfx2.out.mono ?_; rintro q w5 ⟨r5, s5, rfl, hat5, b5⟩; have hb5 := hid b5; have g0 := (b5.cell (World.block_lt_of_cell? _ _ f0)).trans f0; have g1 := (b5.cell (World.block_lt_of_cell? _ _ f1)).trans f1; have gx1 := (b5.cell (World.block_lt_of_cell? _ _ fx1)).trans fx1; have hr5 := ogb.out r5 s5 (by rw [show ((x + 1 : Nat) : Int) = (x : Int) + 1 by omega]; exact hat5); subst hr5; clear b5 hat5))
        have hst5 : Hid (Un.Ls w5 u3 V (Un.jl (EA V R) (EB V R) (fun x => x) (evs (l.take i))) ∧ Below w3.heap.size w3 w5) := by
          have b := (Below.refl w4.heap.size w4).drew.trans hb5.out
          exact hid ⟨hst4.out.1.below b, hst4.out.2.trans (b.mono hst4.out.2.size)⟩
        have hjs : Hid (∀ f, f = Un.jl (EA V R) (EB V R) (fun x => x) (evs (l.take i)) → Un.jn f (EA V R (x / 2)) (EB V R (x / 2)) = Un.jl (EA V R) (EB V R) (fun x => x) (evs (l.take (i + 1)))) := hid (fun f hf => by
          rw [hap.out, Un.jl_append, hf]
          rfl)
        have hlab : Hid (Un.Lab (Un.jl (EA V R) (EB V R) (fun x => x) (evs (l.take i)))) := hid (Un.jl_lab Un.Lab.start _)
        obtain ⟨f, hf⟩ : ∃ f, f = Un.jl (EA V R) (EB V R) (fun x => x) (evs (l.take i)) := ⟨_, rfl⟩
        rw [← hf] at hst5 hlab
        have hj2 := hid (hjs.out f hf)
        clear hjs hf hst4 hb5 f0 f1 fx1 g0 g1 gx1 hfx2 hbz4 oga ogb
        generalize EA V R (x / 2) = a at *
        generalize EB V R (x / 2) = b at *
        by_cases hab : f a = f b
        · have hjc := hid (Un.rjoin_same u3 V a b f w5 hst5.out.1 la lbb hV hab)
          go_wp2_with fail
          refine hjc.out.mono ?_
          rintro q w6 ⟨rfl, b6⟩
          have hnew : Hid (Un.Ls w6 u3 V (Un.jl (EA V R) (EB V R) (fun x => x) (evs (l.take (i + 1)))) ∧ Below w3.heap.size w3 w6) := by
            rw [← hj2.out, Un.jn_same hab]
            exact hid ⟨hst5.out.1.below b6, hst5.out.2.trans (b6.mono hst5.out.2.size)⟩
          clear b6 hjc
          go_wp2_with fail
          go_roundw
          case rel => exact ⟨i + 1, by omega, by go_num, hnew⟩
          case measure => simp [intOf]; omega
        · have hjc := hid (Un.rjoin_new u3 V a b f w5 hst5.out.1 la lbb hV hab (fun x _ => hlab.out.le x))
          go_wp2_with fail
          refine hjc.out.mono ?_
          rintro q w6 ⟨u6, rfl, hl6, b6⟩
          have hnew : Hid (Un.Ls w6 u6 V (Un.jl (EA V R) (EB V R) (fun x => x) (evs (l.take (i + 1)))) ∧ Below w3.heap.size w3 w6) := by
            rw [← hj2.out]
            exact hid ⟨hl6, hst5.out.2.trans (b6.mono hst5.out.2.size)⟩
          clear b6 hjc hl6
          go_wp2_with fail
          go_roundw
          case rel => exact ⟨i + 1, by omega, by go_num, hnew⟩
          case measure => simp [intOf]; omega
      · have t1 : ((x : Int) % 2 == 0) = false := by simp; omega
        have t2 : ¬ ((x : Int) % 2 = 0) := by omega
        have hnew : Hid (Un.Ls wr u3 V (Un.jl (EA V R) (EB V R) (fun x => x) (evs (l.take (i + 1)))) ∧ Below w3.heap.size w3 wr) := by
          rw [evs_odd hx hev]
          exact hst
        clear hst hx hxi
        go_wp2_with fail
        go_roundw
        case rel => exact ⟨i + 1, by omega, by go_num, hnew⟩
        case measure => simp [intOf]; omega
    · obtain rfl : i = nl := by omega
      have v1 : decide ((i : Int) < (i : Int)) = false := decide_eq_false (by omega)
      have fin : Hid (Un.Ls wr u3 V (lb V E R) ∧ Below w.heap.size w wr) := by
        have h := hst.out
        rw [List.take_of_length_le (by rw [hnlen.out]; exact Nat.le_refl _), hend.out] at h
        exact hid ⟨h.1, hb3.out.trans (h.2.mono hb3.out.size)⟩
      clear hst
      go_wp2_with fail
      go_ret
      exact ⟨_, rfl, fin.out.1, fin.out.2⟩

end Go.Proofs.YtghpjljnbdjmaaaGreatDoor
