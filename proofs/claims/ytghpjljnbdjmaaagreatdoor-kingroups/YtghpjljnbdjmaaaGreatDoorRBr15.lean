/- The document's End, Bridge and Bridges, walked. -/
import Derived.Test.YtghpjljnbdjmaaaGreatDoorBare15
import Derived.Test.YtghpjljnbdjmaaaGreatDoorLaws11
import Derived.Test.YtghpjljnbdjmaaaGreatDoorLift10
import Derived.Test.YtghpjljnbdjmaaaGreatDoorRGroups12
namespace Go.Proofs.YtghpjljnbdjmaaaGreatDoor
open Go.RowKit
set_option linter.unusedVariables false

open Pq (fl fl_length fl_succ fl_get fl_congr fl_get')

theorem Un.Ls.nl {w : World} {v : Value} {n : Nat} {f : Nat → Nat} (h : Un.Ls w v n f) : NL w v (fl n f) := by
  obtain ⟨b, cap, rfl, h1, h2, cs, fr, h3, h4⟩ := h
  refine ⟨_, n, cap, rfl, fl_length _ _, ⟨h1, fun q => by (cases q), fun a q => ?_⟩, h2, fun j x hj => ?_⟩
  · obtain rfl := Option.some.inj q
    exact ⟨b, 0, rfl, cs, fr, h3⟩
  · obtain ⟨q1, q2⟩ := fl_get' hj
    exact ⟨b, 0, rfl, by rw [Nat.zero_add, ← q2]; exact h4 j q1⟩

set_option maxRecDepth 100000 in
set_option maxHeartbeats 2000000 in
theorem rend_ok (tv : Value) (E V d : Nat) (R : Nat → List Nat) (w : World) (hv : RT w tv E V R) (ht : Tn V E R) (hw : Tw V E R) (hd : In V R d) (hE : E ≤ 1000) (hV : V ≤ 1000) (hl : ∀ u, u < V → (R u).length ≤ 1000) :
    Calls Tryz.prog 50 #[tv, .int .i64 (d : Int)] w fun x w' => x = .returned (.int .i64 (og V R (tw d) : Int)) ∧ Below w.heap.size w w' := by
  have hti := hd.tw ht hw
  have hdl := hd.low ht
  have hfi := fun (y : World) (hy : Below w.heap.size w y) => rfind_ok tv E V R ((tw d : Nat) : Int) y (hv.below hy) hV hl
  have hog : Hid (∀ r s, At V R ((tw d : Nat) : Int) r s → r = (og V R (tw d) : Int)) := hid fun r s ha => At.og ht hti ha
  obtain ⟨lv, rfl, hr⟩ := hv
  obtain ⟨c0, c1⟩ := two_new w (.int .i64 (E : Int)) lv 27
  have hb := balloc w (.cells #[.int .i64 (E : Int), lv] 27)
  have hcall := hid (hfi _ hb)
  obtain ⟨w1, hw1⟩ : ∃ w1, w.alloc (.cells #[.int .i64 (E : Int), lv] 27) = w1 := ⟨_, rfl⟩
  rw [hw1] at c0 c1 hb hcall
  obtain ⟨Y, hY⟩ : ∃ Y, og V R (tw d) = Y := ⟨_, rfl⟩
  rw [hY] at hog ⊢
  have ways : (((d : Int) % 2 == 1) = true ∧ ((tw d : Nat) : Int) = (d : Int) - 1) ∨ (((d : Int) % 2 == 1) = false ∧ ((tw d : Nat) : Int) = (d : Int) + 1) := by
    unfold tw
    by_cases q : d % 2 = 0
    · rw [if_pos q]; exact .inr ⟨by simp; omega, by omega⟩
    · rw [if_neg q]; exact .inl ⟨by simp; omega, by omega⟩
  obtain ⟨T, hT⟩ : ∃ T, ((tw d : Nat) : Int) = T := ⟨_, rfl⟩
  rw [hT] at hcall hog ways
  replace hw1 := hid hw1
  replace hb := hid hb
  clear hfi hr hti hT hY hd
  rcases ways with ⟨t1, t2⟩ | ⟨t1, t2⟩
  · subst t2
    go_enter Tryz.func50, Tryz.ntmps50
    go_upto_region 1 with fail
    rw [hw1.out]
    go_wp2_with fail
    refine hcall.out.mono ?_
    rintro x w2 ⟨r, s, rfl, hat, b2⟩
    have hre := hog.out r s hat
    subst hre
    have fin := hid (below_thru hb.out b2)
    clear hat b2 hcall c0 c1
    go_wp2_with fail
    go_ret
    exact ⟨rfl, fin.out⟩
  · subst t2
    go_enter Tryz.func50, Tryz.ntmps50
    go_upto_region 1 with fail
    rw [hw1.out]
    go_wp2_with fail
    refine hcall.out.mono ?_
    rintro x w2 ⟨r, s, rfl, hat, b2⟩
    have hre := hog.out r s hat
    subst hre
    have fin := hid (below_thru hb.out b2)
    clear hat b2 hcall c0 c1
    go_wp2_with fail
    go_ret
    exact ⟨rfl, fin.out⟩

set_option maxRecDepth 100000 in
set_option maxHeartbeats 4000000 in
theorem rbridge_ok (tv : Value) (E V e : Nat) (R : Nat → List Nat) (w : World) (hv : RT w tv E V R) (ht : Tn V E R) (hw : Tw V E R) (he : e < E) (hi : In V R (2 * e)) (hE : E ≤ 1000) (hV1 : 1 ≤ V) (hV : V ≤ 1000) (hl : ∀ u, u < V → (R u).length ≤ 1000) (s : Bool) (hs : s = true ↔ Br V R e) :
    Calls Tryz.prog 20 #[tv, .int .i64 (e : Int)] w fun x w' => x = .returned (.bool s) ∧ Below w.heap.size w w' := by
  have hi2 := (hw e he).1 hi
  have hlf := ht.lift hw (e := e)
  have hfi := fun (y : World) (hy : Below w.heap.size w y) => rfind_ok tv E V R ((2 * e : Nat) : Int) y (hv.below hy) hV hl
  have hfi2 := fun (y : World) (hy : Below w.heap.size w y) => rfind_ok tv E V R ((2 * e + 1 : Nat) : Int) y (hv.below hy) hV hl
  have hli := fun (y : World) (hy : Below w.heap.size w y) => rlift_ok tv E V e R y (hv.below hy) ht he hi hi2 hE hV hl
  have hgr := hid (fun (tv' : Value) (y : World) (hy : RT y tv' E V (liftR R e)) => rgroups_ok tv' E V (liftR R e) y hy hlf.1 hlf.2.1 hE hV1 hV (fun u hu => by
    have h1 := hl u hu
    unfold liftR outR
    have h2 := (List.erase_sublist (a := 2 * e + 1) (l := (R u).erase (2 * e))).length_le
    have h3 := (List.erase_sublist (a := 2 * e) (l := R u)).length_le
    omega))
  have hog : Hid (∀ r s, At V R ((2 * e : Nat) : Int) r s → r = (og V R (2 * e) : Int)) := hid fun r s ha => At.og ht hi ha
  have hog2 : Hid (∀ r s, At V R ((2 * e + 1 : Nat) : Int) r s → r = (og V R (2 * e + 1) : Int)) := hid fun r s ha => At.og ht hi2 ha
  have ha := (og_is hi).1
  have hb' := (og_is hi2).1
  rw [br_lb ht hw] at hs
  obtain ⟨lv, rfl, hr⟩ := hv
  obtain ⟨c0, c1⟩ := two_new w (.int .i64 (E : Int)) lv 27
  have hb := balloc w (.cells #[.int .i64 (E : Int), lv] 27)
  obtain ⟨w1, hw1⟩ : ∃ w1, w.alloc (.cells #[.int .i64 (E : Int), lv] 27) = w1 := ⟨_, rfl⟩
  rw [hw1] at c0 c1 hb
  have hcl := hid (fun (y : World) (hy : Below w1.heap.size w1 y) => And.intro ((hy.cell (World.block_lt_of_cell? w1 _ c0)).trans c0) ((hy.cell (World.block_lt_of_cell? w1 _ c1)).trans c1))
  have e1 : ((2 * e : Nat) : Int) = 2 * (e : Int) := by omega
  have e2 : ((2 * e + 1 : Nat) : Int) = 2 * (e : Int) + 1 := by omega
  rw [e1] at hfi hog
  rw [e2] at hfi2 hog2
  replace hfi := hid hfi
  replace hfi2 := hid hfi2
  replace hli := hid hli
  generalize lb V E (liftR R e) = L at hgr hs
  obtain ⟨a, hA⟩ : ∃ a, og V R (2 * e) = a := ⟨_, rfl⟩
  obtain ⟨b, hB⟩ : ∃ b, og V R (2 * e + 1) = b := ⟨_, rfl⟩
  rw [hA] at hog ha hs
  rw [hB] at hog2 hb' hs
  have t1 : ((L a : Int) != (L b : Int)) = s := by
    cases s with
    | true => have := hs.1 rfl; simp; omega
    | false =>
      have : L a = L b := Classical.not_not.1 (fun q => by have := hs.2 q; simp at this)
      rw [this]; simp
  replace hw1 := hid hw1
  replace hb := hid hb
  clear hr hi hi2 hlf ht hw e1 e2 hA hB hs hl
  go_enter Tryz.func20, Tryz.ntmps20
  go_upto_region 1 with fail
  rw [hw1.out]
  go_wp2_with fail
  refine (hfi.out w1 hb.out).mono ?_
  rintro x w2 ⟨r2, s2, rfl, hat, b2⟩
  obtain rfl := hog.out r2 s2 hat
  obtain ⟨d0, d1⟩ := hcl.out w2 b2
  replace b2 := hid b2
  clear hat c0 c1 hfi hog
  go_wp2_with fail
  refine (hfi2.out w2 (below_thru hb.out b2.out)).mono ?_
  rintro x w3 ⟨r3, s3, rfl, hat, b3⟩
  obtain rfl := hog2.out r3 s3 hat
  replace b2 := hid (below_thru b2.out b3)
  clear d0 d1 b3 hat hfi2 hog2
  obtain ⟨d0, d1⟩ := hcl.out w3 b2.out
  go_wp2_with fail
  refine (hli.out w3 (below_thru hb.out b2.out)).mono ?_
  rintro x w4 ⟨tv4, rfl, hrt4, b4⟩
  obtain ⟨lv4, rfl, hr4⟩ := id hrt4
  obtain ⟨ad4, cap4, rfl⟩ : ∃ ad4 cap4, lv4 = .slice ad4 V cap4 := by
    obtain ⟨x1, x2, h1, _⟩ := hr4
    exact ⟨x1, x2, h1⟩
  have b5 := hid (below_thru (below_thru hb.out b2.out) b4)
  obtain ⟨f0, f1⟩ := two_new w4 (.int .i64 (E : Int)) (.slice ad4 V cap4) 27
  have ba := balloc w4 (.cells #[.int .i64 (E : Int), .slice ad4 V cap4] 27)
  have hcall := hid (hgr.out _ _ (hrt4.below ba))
  obtain ⟨w5, hw5⟩ : ∃ w5, w4.alloc (.cells #[.int .i64 (E : Int), .slice ad4 V cap4] 27) = w5 := ⟨_, rfl⟩
  rw [hw5] at f0 f1 ba hcall
  have b6 := hid (below_thru b5.out ba)
  replace hw5 := hid hw5
  clear d0 d1 b2 b4 b5 hli hcl hr4 hrt4 ba hgr
  go_upto_region 4 with fail
  try rw [hw5.out]
  clear hw5
  go_wp2_with fail
  refine hcall.out.mono ?_
  rintro x w6 ⟨u6, rfl, hls, b7⟩
  obtain ⟨gb, cap, rfl, _, _, cs, fr, _, hce⟩ := hls
  have ca := hce a ha
  have cb := hce b hb'
  have b8 := hid (below_thru b6.out b7)
  have i1 : (0 : Int) ≤ (a : Int) := by omega
  have i2 : (a : Int) < (V : Int) := by omega
  have i3 : (0 : Int) ≤ (b : Int) := by omega
  have i4 : (b : Int) < (V : Int) := by omega
  clear f0 f1 hcall hce b7 b6
  generalize L a = La at ca t1
  generalize L b = Lb at cb t1
  go_wp2_with fail
  go_region
  have b9 := hid b8.out.drew
  go_wp2_with fail
  go_ret
  exact ⟨rfl, b9.out⟩

open Classical in
/-- The bridges among some edges. -/
noncomputable def fbr (V : Nat) (R : Nat → List Nat) (l : List Nat) : List Nat := l.filter (fun e => decide (Br V R e))

theorem fbr_all (V E : Nat) (R : Nat → List Nat) : fbr V R (es V R E) = brs V E R := by
  classical
  unfold fbr es brs
  rw [List.filter_filter]
  refine List.filter_congr (fun e _ => ?_)
  by_cases h1 : In V R (2 * e) <;> by_cases h2 : Br V R e <;> simp [h1, h2]

theorem fbr_yes {V e : Nat} {R : Nat → List Nat} (l : List Nat) (h : Br V R e) : fbr V R (l ++ [e]) = fbr V R l ++ [e] := by
  unfold fbr; rw [List.filter_append]; simp [h]
theorem fbr_no {V e : Nat} {R : Nat → List Nat} (l : List Nat) (h : ¬ Br V R e) : fbr V R (l ++ [e]) = fbr V R l := by
  unfold fbr; rw [List.filter_append]; simp [h]
theorem fbr_len (V : Nat) (R : Nat → List Nat) (l : List Nat) : (fbr V R l).length ≤ l.length := by
  unfold fbr; exact List.length_filter_le _ _

set_option maxRecDepth 100000 in
set_option maxHeartbeats 8000000 in
theorem rbridges_ok (tv : Value) (E V : Nat) (R : Nat → List Nat) (w : World) (hv : RT w tv E V R) (ht : Tn V E R) (hw : Tw V E R) (hE : E ≤ 1000) (hV1 : 1 ≤ V) (hV : V ≤ 1000) (hl : ∀ u, u < V → (R u).length ≤ 1000) :
    Calls Tryz.prog 18 #[tv] w fun x w' => ∃ u, x = .returned u ∧ Rw w.heap.size w' u (brs V E R) ∧ Below w.heap.size w w' := by
  obtain ⟨i0, hif, hz0, hz1, hz2⟩ := info_parts infoInt
  have hda := fun (y : World) (hy : Below w.heap.size w y) => rdarts_ok tv E V R y (hv.below hy) hE hV hl
  have hbr := fun (e : Nat) (s : Bool) (he : e < E) (hi : In V R (2 * e)) (hs : s = true ↔ Br V R e) (y : World) (hy : Below w.heap.size w y) => rbridge_ok tv E V e R y (hv.below hy) ht hw he hi hE hV1 hV hl s hs
  have hlow : Hid (∀ x, In V R x → x < 2 * E) := hid fun x hx => hx.low ht
  obtain ⟨lv, rfl, hr⟩ := hv
  obtain ⟨ad, cap, rfl⟩ : ∃ ad cap, lv = .slice ad V cap := by
    obtain ⟨x1, x2, h1, _⟩ := hr
    exact ⟨x1, x2, h1⟩
  obtain ⟨c0, c1⟩ := two_new w (.int .i64 (E : Int)) (.slice ad V cap) 27
  have hb := balloc w (.cells #[.int .i64 (E : Int), .slice ad V cap] 27)
  obtain ⟨w1, hw1⟩ : ∃ w1, w.alloc (.cells #[.int .i64 (E : Int), .slice ad V cap] 27) = w1 := ⟨_, rfl⟩
  rw [hw1] at c0 c1 hb
  have hcl := hid (fun (y : World) (hy : Below w1.heap.size w1 y) => And.intro ((hy.cell (World.block_lt_of_cell? w1 _ c0)).trans c0) ((hy.cell (World.block_lt_of_cell? w1 _ c1)).trans c1))
  have hml : Hid (∀ x, x ∈ laid V R (2 * E) → In V R x) := hid fun x hx => (mem_laid.1 hx).2
  have hll := laid_len V R (2 * E)
  have hend : Hid (evs (laid V R (2 * E)) = es V R E) := hid (evs_laid V R E)
  replace hda := hid hda
  replace hbr := hid hbr
  replace hb := hid hb
  replace hw1 := hid hw1
  clear hr ht hw hl
  go_enter Tryz.func18, Tryz.ntmps18
  go_upto_region 1 with fail
  rw [hw1.out]
  clear hw1
  go_wp2_with fail
  refine (hda.out w1 hb.out).mono ?_
  rintro x w2 ⟨rv, rfl, hnl, b2⟩
  generalize laid V R (2 * E) = l at *
  obtain ⟨al, nl, cl, rfl, hnlen, ⟨hncap, _, _⟩, hncm, hnc⟩ := hnl
  unfold maxLen at hncm
  have hnb : nl ≤ 2000 := by omega
  have hsz2 : w.heap.size ≤ w2.heap.size := Nat.le_trans hb.out.size b2.size
  have hlc : Hid (∀ (j x : Nat), l[j]? = some x → ∃ b o, al = some ⟨b, o, none⟩ ∧ ∀ y, Below w2.heap.size w2 y → y.cell? ⟨b, o + j, none⟩ = some (.int .i64 (x : Int))) := hid (fun j x hj => by
    obtain ⟨b, o, q1, q2⟩ := hnc j x hj
    exact ⟨b, o, q1, fun y hy => (hy.cell (World.block_lt_of_cell? w2 _ q2)).trans q2⟩)
  have hst0 : Hid (Rw w2.heap.size w2 (.slice none 0 0) (fbr V R (evs (l.take 0))) ∧ Below w2.heap.size w2 w2) := hid ⟨World.ownsRow_nil _ _ _ _, Below.refl _ _⟩
  replace b2 := hid b2
  replace hnlen := hid hnlen
  clear hnc c0 c1 hda hll
  go_wp2_with fail
  go_loopw [3, 5] (fun ov u wr => ∃ i : Nat, i ≤ nl ∧ u = .int .i64 (i : Int) ∧ Hid (Rw w2.heap.size wr ov (fbr V R (evs (l.take i))) ∧ Below w2.heap.size w2 wr)) (fun _ u _ => nl - (intOf u).toNat)
  case atStart => exact ⟨0, by omega, by go_num, hst0⟩
  case round =>
    obtain ⟨i, hi, rfl, hst⟩ := hrel
    clear hst0
    rcases Nat.lt_or_ge i nl with hlt | hge
    · obtain ⟨x, hx⟩ : ∃ x, l[i]? = some x := ⟨_, List.getElem?_eq_getElem (by rw [hnlen.out]; exact hlt)⟩
      have hxi := hml.out x (List.mem_of_getElem? hx)
      have hxl := hlow.out x hxi
      obtain ⟨gb, go, rfl, hxc⟩ := hlc.out i x hx
      have cx := hxc wr hst.out.2
      obtain ⟨d0, d1⟩ := hcl.out wr (below_thru b2.out hst.out.2)
      have j1 : (0 : Int) ≤ (i : Int) := by omega
      have j2 : (i : Int) < (nl : Int) := by omega
      by_cases hev : x % 2 = 0
      · have hap : Hid (evs (l.take (i + 1)) = evs (l.take i) ++ [x / 2]) := hid (evs_even hx hev)
        have t1 : ((x : Int).tmod 2 == 0) = true := by rw [Int.tmod_eq_emod_of_nonneg (by omega)]; simp; omega
        have t2 : ((x : Int) % 2 == 0) = true := by simp; omega
        have t3 : (x : Int).tmod 2 = 0 := by rw [Int.tmod_eq_emod_of_nonneg (by omega)]; omega
        obtain ⟨D, hD⟩ : ∃ D, x / 2 = D := ⟨_, rfl⟩
        rw [hD] at hap
        have q1 : (x : Int).tdiv 2 = (D : Int) := by rw [Int.tdiv_eq_ediv_of_nonneg (by omega)]; omega
        have q2 : IntKind.i64.wrap (D : Int) = (D : Int) := by rw [IntKind.wrap_i64]; omega
        have hiD : In V R (2 * D) := by rw [show 2 * D = x by omega]; exact hxi
        have hfl : (fbr V R (evs (l.take i))).length ≤ 2000 := by
          have h1 := fbr_len V R (evs (l.take i))
          have h2 : (evs (l.take i)).length ≤ (l.take i).length := by unfold evs; rw [List.length_map]; exact List.length_filter_le _ _
          have h3 := List.length_take_le i l
          omega
        have hb0 : Below w.heap.size w wr := below_thru hb.out (below_thru b2.out hst.out.2)
        have hcell : Hid (∀ y, Below wr.heap.size wr y → y.cell? ⟨w.heap.size, 0, none⟩ = some (.int .i64 (E : Int)) ∧ y.cell? ⟨w.heap.size, 1, none⟩ = some (.slice ad V cap) ∧ y.cell? ⟨gb, go + i, none⟩ = some (.int .i64 (x : Int))) := hid fun y hy => ⟨(hcl.out y (below_thru (below_thru b2.out hst.out.2) hy)).1, (hcl.out y (below_thru (below_thru b2.out hst.out.2) hy)).2, hxc y (below_thru hst.out.2 hy)⟩
        by_cases hB : Br V R D
        · have hcall := hid (fun y (hy : Below wr.heap.size wr y) => hbr.out D true (by omega) hiD (by simp [hB]) y (below_thru hb0 hy))
          have hnx : Hid (fbr V R (evs (l.take (i + 1))) = fbr V R (evs (l.take i)) ++ [D]) := by rw [hap.out]; exact hid (fbr_yes _ hB)
          clear hxi hev hiD hB hb0 hx hD
          have hro := hid hst.out.1
          have hbe := hid hst.out.2
          clear hst
          go_wp2_with fail
          go_region_held3 (fun z => z.cell? ⟨w.heap.size, 0, none⟩ = some (.int .i64 (E : Int)) ∧ z.cell? ⟨w.heap.size, 1, none⟩ = some (.slice ad V cap) ∧ z.cell? ⟨gb, go + i, none⟩ = some (.int .i64 (x : Int))) (first | with_reducible exact hcell.out _ bS.out | with_reducible exact hcell.out _ (Below.refl _ _).drew | with_reducible exact hcell.out _ (Below.refl _ _) | go_keep) ((go_at_call 20; refine (hcall.out _ (by first | exact (Below.refl _ _).drew | exact Below.refl _ _)).mono ?_; rintro q ws ⟨rfl, bs1⟩; have bS := hid (below_thru (by first | exact (Below.refl wr.heap.size wr).drew | exact Below.refl wr.heap.size wr) bs1); clear bs1))
          have hcx := (hcell.out ws bS.out).2.2
          have hown : ws.ownsRow w2.heap.size 3 1 u3 (fbr V R (evs (l.take i))).length (ncs (fbr V R (evs (l.take i)))) := hro.out.more bS.out
          have hbs := below_thru hbe.out bS.out
          have hszs := hbs.size
          have ba := hid (balloc ws (.cells #[.int .i64 (D : Int)] 3))
          replace hbs := hid hbs
          clear d0 d1 cx hro hcall t1 t2 t3
          go_wp2_with (at_builtin; refine wpList_append_own _ rfl (.tmp 29) (.tmp 35) 30 rfl w2.heap.size 3 i0 _ 1 8 Tryz.underlying30 hif hz0 hz1 hz2 rfl (by decide) _ _ _ rfl (hown.alloc _) ⟨ws.heap.size, 0, none⟩ 1 1 [.int .i64 (D : Int)] rfl rfl (one_new ws _ _) (by simp [Value.oneCell']) (by unfold maxLen; omega) (by omega) (by simp; omega) ?_; intro v5 w5 ho5 hg5 _; refine Hid.out ?_)
          have hr5 : Rw w2.heap.size w5 v5 (fbr V R (evs (l.take (i + 1)))) := by
            rw [hnx.out]
            unfold Rw
            rw [List.length_append, ncs_append]
            exact ho5
          have hb5 := below_row (hbs.out.trans (ba.out.mono hbs.out.size)) (Nat.le_refl _) (hown.alloc (.cells #[.int .i64 (D : Int)] 3)) (Nat.le_refl _) hg5
          have hnew := hid (And.intro hr5 hb5)
          clear ho5 hg5 hr5 hb5 hown ba hbs hcx bS hbe
          refine hid ?_
          go_wp2_with fail
          go_roundw
          case rel => exact ⟨i + 1, by omega, by go_num, hnew⟩
          case measure => simp [intOf]; omega
        · have hcall := hid (fun y (hy : Below wr.heap.size wr y) => hbr.out D false (by omega) hiD (by simp [hB]) y (below_thru hb0 hy))
          have hnx : Hid (fbr V R (evs (l.take (i + 1))) = fbr V R (evs (l.take i))) := by rw [hap.out]; exact hid (fbr_no _ hB)
          clear hxi hev hiD hB hb0 hx hD
          have hro := hid hst.out.1
          have hbe := hid hst.out.2
          clear hst
          go_wp2_with fail
          go_region_held3 (fun z => z.cell? ⟨w.heap.size, 0, none⟩ = some (.int .i64 (E : Int)) ∧ z.cell? ⟨w.heap.size, 1, none⟩ = some (.slice ad V cap) ∧ z.cell? ⟨gb, go + i, none⟩ = some (.int .i64 (x : Int))) (first | with_reducible exact hcell.out _ bS.out | with_reducible exact hcell.out _ (Below.refl _ _).drew | with_reducible exact hcell.out _ (Below.refl _ _) | go_keep) ((go_at_call 20; refine (hcall.out _ (by first | exact (Below.refl _ _).drew | exact Below.refl _ _)).mono ?_; rintro q ws ⟨rfl, bs1⟩; have bS := hid (below_thru (by first | exact (Below.refl wr.heap.size wr).drew | exact Below.refl wr.heap.size wr) bs1); clear bs1))
          have hnew : Hid (Rw w2.heap.size ws u3 (fbr V R (evs (l.take (i + 1)))) ∧ Below w2.heap.size w2 ws) := by rw [hnx.out]; exact hid ⟨hro.out.more bS.out, below_thru hbe.out bS.out⟩
          clear d0 d1 cx hro hcall t1 t2 t3 bS hbe
          go_wp2_with fail
          go_roundw
          case rel => exact ⟨i + 1, by omega, by go_num, hnew⟩
          case measure => simp [intOf]; omega
      · have hap : Hid (evs (l.take (i + 1)) = evs (l.take i)) := hid (evs_odd hx hev)
        have t1 : ((x : Int).tmod 2 == 0) = false := by rw [Int.tmod_eq_emod_of_nonneg (by omega)]; simp; omega
        have hnew : Hid (∀ y, Below wr.heap.size wr y → Rw w2.heap.size y u3 (fbr V R (evs (l.take (i + 1)))) ∧ Below w2.heap.size w2 y) := hid fun y hy => by rw [hap.out]; exact ⟨hst.out.1.more hy, below_thru hst.out.2 hy⟩
        clear hst hxi hev hx
        go_wp2_with fail
        go_quiet (fail)
        have hn2 := hid (hnew.out _ (belowN (Below.refl wr.heap.size wr) nq))
        generalize wr.drewN nq = w4 at hn2 ⊢
        clear d0 d1 cx
        go_wp2_with fail
        go_roundw
        case rel => exact ⟨i + 1, by omega, by go_num, hn2⟩
        case measure => simp [intOf]; omega
    · obtain rfl : i = nl := by omega
      have fin : Hid (Rw w.heap.size wr u3 (brs V E R) ∧ Below w.heap.size w wr) := by
        have h := hst.out
        rw [List.take_of_length_le (by rw [hnlen.out]; exact Nat.le_refl _), hend.out, fbr_all] at h
        exact hid ⟨h.1.low hsz2, below_thru hb.out (below_thru b2.out h.2)⟩
      clear hst
      go_wp2_with fail
      go_ret
      exact ⟨_, rfl, fin.out.1, fin.out.2⟩

end Go.Proofs.YtghpjljnbdjmaaaGreatDoor
